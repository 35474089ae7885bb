/-
  The contracts of mac.Check and sundialref06.Check.
  Conditions: none.
-/
import Derived.Test.YtbbcgcfahaljoaaDoorMcB
import Derived.Test.YtbbcgcfahaljoaaDoorMcC
import Derived.Deep.RegionHeld3
namespace Go.Proofs.YtbbcgcfahaljoaaDoor.Mc
open Go.ChangeShapes Go.WideShapes Go.ChangeAt Go.RowKit Go.Joins Hs
set_option linter.unusedVariables false
set_option linter.unusedSimpArgs false

set_option maxRecDepth 100000 in
set_option maxHeartbeats 8000000 in
theorem Check_c {w : World} {v : Value} {n : Nat} {K : Nat → KD} (R : Ring w v n K) :
    Calls Tryd.prog 11 #[v] w fun e w' => e = .returned (.int .i64 (chk n K)) ∧ Below w.heap.size w w' := by
  obtain ⟨a, cap, rfl, h1, h2, h3, h4⟩ := R
  obtain ⟨r, HQ⟩ : ∃ r, Hid (r = chk n K) := ⟨_, Lib.hid rfl⟩
  rw [← HQ.out]
  have q1 : (n : Int) ≤ (cap : Int) := by omega
  have q2 : (cap : Int) ≤ 9223372036854775807 := by omega
  by_cases c : 64 < n
  · have e0 : decide (64 < (n : Int)) = true := by rw [decide_eq_true_iff]; omega
    go_enter Tryd.func11, Tryd.ntmps11
    go_wp2_with fail
    go_ret
    exact ⟨by rw [HQ.out, chk_long c]; rfl, brefl w⟩
  have e0 : decide (64 < (n : Int)) = false := by rw [decide_eq_false_iff_not]; omega
  have H3 := Lib.hid h3
  have H4 := Lib.hid h4
  clear h3 h4
  go_enter Tryd.func11, Tryd.ntmps11
  go_wp2_with fail
  go_loopw [4, 12] (fun _ i wr => ∃ k : Nat, k ≤ n ∧ i = .int .i64 k ∧ (∀ j, j < k → isK (K j) = true) ∧ Below w.heap.size w wr) (fun _ i _ => n - (intOf i).toNat)
  case atStart => exact ⟨0, Nat.zero_le _, rfl, fun j hj => absurd hj (Nat.not_lt_zero _), brefl w⟩
  case round =>
    obtain ⟨k, hk, rfl, hno, hb⟩ := hrel
    rename World => wr
    have NO := Lib.hid hno
    have BB := Lib.hid hb
    clear hno hb
    by_cases c1 : k < n
    · have e1 : decide ((k : Int) < (n : Int)) = true := by rw [decide_eq_true_iff]; omega
      obtain ⟨b, off, rfl, hbl, hK⟩ := H3.out (by omega)
      obtain ⟨g0, g1, g2⟩ := (hK k c1).below hbl BB.out
      have k1 : (k : Int) < (n : Int) := by omega
      have BL : b < wr.heap.size := Nat.lt_of_lt_of_le hbl BB.out.size
      have CC := Lib.hid (fun w' => isKey_c (K k) w' (H4.out k c1).2.2.form)
      have HB := Lib.hid (chk_bad (K := K) c1)
      have FM := (H4.out k c1).2.2.form
      clear hK
      generalize hy : K k = y at *
      have HY := Lib.hid hy
      clear hy
      obtain ⟨id, kind, v, l, f⟩ := y
      obtain ⟨a', cap', hv⟩ := FM
      obtain rfl : v = .slice a' l cap' := hv
      simp only at g0 g1 g2
      have BA := Lib.hid (BB.out.trans ((balloc (brefl wr) (.cells #[.int .u32 id, .int .i64 kind, .slice a' l cap'] 28)).mono BB.out.size))
      go_wp2_with fail
      cases hq : isK ⟨id, kind, .slice a' l cap', l, f⟩ with
      | true =>
        have CD := Lib.hid (CC.out (wr.alloc (.cells #[.int .u32 id, .int .i64 kind, .slice a' l cap'] 28)))
        rw [hq] at CD
        refine CD.out.mono ?_
        rintro e w3 ⟨rfl, hb⟩
        have B3 := Lib.hid (BA.out.trans (hb.mono BA.out.size))
        clear hb CD CC
        go_wp2_with fail
        go_roundw
        case rel =>
          refine ⟨k + 1, by omega, by go_num, fun j hj => ?_, B3.out⟩
          by_cases e : j = k
          · subst e; rw [HY.out]; exact hq
          · exact NO.out j (by omega)
        case measure => simp [intOf]; omega
      | false =>
        have CD := Lib.hid (CC.out (wr.alloc (.cells #[.int .u32 id, .int .i64 kind, .slice a' l cap'] 28)))
        rw [hq] at CD
        refine CD.out.mono ?_
        rintro e w3 ⟨rfl, hb⟩
        have B3 := Lib.hid (BA.out.trans (hb.mono BA.out.size))
        clear hb CD CC
        go_wp2_with fail
        go_ret
        exact ⟨by rw [HQ.out, HB.out hq]; rfl, B3.out⟩
    · have e1 : decide ((k : Int) < (n : Int)) = false := by rw [decide_eq_false_iff_not]; omega
      obtain rfl : n = k := by omega
      go_wp2_with fail
      go_loopw [5, 6, 22] (fun _ _ i wr => ∃ k : Nat, k ≤ n ∧ i = .int .i64 k ∧ (∀ j, j < k → ¬ fi K (K j).id j < j) ∧ Below w.heap.size w wr) (fun _ _ i _ => n - (intOf i).toNat)
      case atStart => exact ⟨0, Nat.zero_le _, rfl, fun j hj => absurd hj (Nat.not_lt_zero _), BB.out⟩
      case round =>
        obtain ⟨k, hk, rfl, hno, hb⟩ := hrel
        rename World => wq
        have NP := Lib.hid hno
        have BQ := Lib.hid hb
        clear hno hb
        by_cases c1 : k < n
        · have e1 : decide ((k : Int) < (n : Int)) = true := by rw [decide_eq_true_iff]; omega
          obtain ⟨b, off, rfl, hbl, hK⟩ := H3.out (by omega)
          obtain ⟨g0, g1, g2⟩ := (hK k c1).below hbl BQ.out
          have k1 : (k : Int) < (n : Int) := by omega
          have BL : b < wq.heap.size := Nat.lt_of_lt_of_le hbl BQ.out.size
          have FM := (H4.out k c1).2.2.form
          have PC : ∀ w', Below w.heap.size w w' → ∀ x, Hid (Calls Tryd.prog 20 #[.slice (some ⟨b, off, none⟩) k cap, .int .u32 x] w' fun e w'' => e = .returned (.int .i64 (pl K x k)) ∧ Below w'.heap.size w' w'') := fun w' q x =>
            Lib.hid (place_c _ k cap K x w' (by omega) h2 (fun _ => ⟨b, off, rfl, Nat.lt_of_lt_of_le hbl q.size, fun j hj => (hK j (by omega)).below hbl q⟩))
          clear hK
          generalize hy : K k = y at *
          have HY := Lib.hid hy
          clear hy
          obtain ⟨id, kind, v, l, f⟩ := y
          obtain ⟨a', cap', hv⟩ := FM
          obtain rfl : v = .slice a' l cap' := hv
          simp only at g0 g1 g2
          have BA := Lib.hid (BQ.out.trans ((balloc (brefl wq) (.cells #[.int .u32 id, .int .i64 kind, .slice a' l cap'] 28)).mono BQ.out.size))
          obtain ⟨q, HP⟩ : ∃ q, Hid (q = pl K id k) := ⟨_, Lib.hid rfl⟩
          have C0 : Hid ((wq.alloc (.cells #[.int .u32 id, .int .i64 kind, .slice a' l cap'] 28)).cell? ⟨wq.heap.size, 0, none⟩ = some (.int .u32 id) ∧ wq.heap.size < (wq.alloc (.cells #[.int .u32 id, .int .i64 kind, .slice a' l cap'] 28)).heap.size) := Lib.hid (by simp)
          have PR : ∀ z, Hid (Below w.heap.size w z → Calls Tryd.prog 20 #[.slice (some ⟨b, off, none⟩) k cap, .int .u32 id] z fun e w'' => e = .returned (.int .i64 q) ∧ Below z.heap.size z w'') := fun z => Lib.hid (by rw [HP.out]; exact fun h => (PC z h id).out)
          clear PC
          go_wp2_with fail
          generalize wq.alloc (.cells #[.int .u32 id, .int .i64 kind, .slice a' l cap'] 28) = wA at *
          have KP : Hid (∀ z, Below wA.heap.size wA z → z.cell? ⟨wq.heap.size, 0, none⟩ = some (.int .u32 id)) := Lib.hid (fun z hz => (hz.cell (p := ⟨wq.heap.size, 0, none⟩) C0.out.2).trans C0.out.1)
          have PS : Hid (∀ z, Below wA.heap.size wA z → Calls Tryd.prog 20 #[.slice (some ⟨b, off, none⟩) k cap, .int .u32 id] z fun e w'' => e = .returned (.int .i64 q) ∧ Below z.heap.size z w'') := Lib.hid (fun z hz => (PR z).out (BA.out.trans (hz.mono BA.out.size)))
          have hb0 : Below wA.heap.size wA wA.drew := (brefl wA).drew
          have q3 : (k : Int) ≤ (cap : Int) := by omega
          have q4 : (0 : Int) ≤ (k : Int) := by omega
          clear PR g0 g1 g2
          by_cases hp : fi K id k < k
          · have e2 : decide (0 ≤ q) = true := by rw [decide_eq_true_iff, HP.out, pl, if_pos hp]; omega
            have CT : Hid (r = 7) := Lib.hid (by rw [HQ.out]; exact chk_twice (by omega) NO.out c1 (by rw [HY.out]; exact hp))
            go_region_held3 (fun w' => w'.cell? ⟨wq.heap.size, 0, none⟩ = some (.int .u32 id))
              (first | exact KP.out _ (by assumption))
              (first | (go_at_call 20; refine (PS.out _ (by assumption)).mono ?_; rintro e w' ⟨rfl, hb⟩; replace hb := bstep (a := wA) (by assumption) hb))
            all_goals
              go_wp2_with fail
              go_ret
              exact ⟨by rw [CT.out]; rfl, BA.out.trans ((by assumption : Below wA.heap.size wA _).mono BA.out.size)⟩
          · have e2 : decide (0 ≤ q) = false := by rw [decide_eq_false_iff_not, HP.out, pl, if_neg hp]; omega
            go_region_held3 (fun w' => w'.cell? ⟨wq.heap.size, 0, none⟩ = some (.int .u32 id))
              (first | exact KP.out _ (by assumption))
              (first | (go_at_call 20; refine (PS.out _ (by assumption)).mono ?_; rintro e w' ⟨rfl, hb⟩; replace hb := bstep (a := wA) (by assumption) hb))
            all_goals
              have BZ := Lib.hid (BA.out.trans ((by assumption : Below wA.heap.size wA _).mono BA.out.size))
              go_wp2_with fail
              go_roundw
            case rel =>
              refine ⟨k + 1, by omega, by go_num, fun j hj => ?_, BZ.out⟩
              by_cases e : j = k
              · subst e; rw [HY.out]; exact hp
              · exact NP.out j (by omega)
            case measure => simp [intOf]; omega
        · have e1 : decide ((k : Int) < (n : Int)) = false := by rw [decide_eq_false_iff_not]; omega
          obtain rfl : n = k := by omega
          go_wp2_with fail
          go_ret
          exact ⟨by rw [HQ.out, chk_ok (by omega) NO.out NP.out]; rfl, BQ.out⟩
end Go.Proofs.YtbbcgcfahaljoaaDoor.Mc
