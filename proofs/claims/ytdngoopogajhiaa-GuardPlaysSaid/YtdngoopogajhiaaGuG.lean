/-
  The laws' rules and same.
  Conditions: none.
-/
import Derived.Test.YtdngoopogajhiaaGuB
namespace Go.Proofs.Ytdngoopogajhiaa.Gu
open Go.RowKit Go.ChangeShapes Go.WideShapes Go.ChangeAt Go.Joins Fl
set_option linter.unusedVariables false
set_option linter.unusedSimpArgs false

theorem info_grule : (Try.prog.info? 36).map (fun i => (i.zero, i.size, i.bytes)) = some (some (.agg (rvs ⟨0, 0, 0⟩).toArray), 3, 16) := by kernel_rfl
set_option maxRecDepth 100000 in
set_option maxHeartbeats 16000000 in
theorem rules_c {w : World} {v : Value} {R : List Ru} (h : Gn.Ss rvs 3 w v R) (hn : R.length * 16 ≤ 140737488351232) : Calls Try.prog 8 #[v] w fun e w' => (∃ v', e = .returned v' ∧ Gn.Own 36 rvs 3 w' w.heap.size v' R) ∧ Below w.heap.size w w' := by
  have HS := Lib.hid h
  obtain ⟨ra, rc, rfl, c1, c2, _⟩ := h
  obtain ⟨m, hm⟩ : ∃ m, R.length = m := ⟨_, rfl⟩
  have HM := Lib.hid hm
  rw [hm] at HS c1 hn ⊢
  have HN := Lib.hid hn
  have m0 : (0 : Int) ≤ (m : Int) := by omega
  have m2 : (m : Int) ≤ (rc : Int) := by omega
  have m3 : (rc : Int) ≤ 9223372036854775807 := by omega
  have m4 : (m : Int) ≤ 9223372036854775806 := by omega
  clear hm hn
  go_enter Try.func8, Try.ntmps8
  go_wp2_with fail
  go_loopw [3, 4] (fun ov iv wr => ∃ k : Nat, k ≤ m ∧ iv = .int .i64 (k : Nat) ∧ Gn.Own 36 rvs 3 wr w.heap.size ov (R.take k) ∧ Below w.heap.size w wr) (fun _ iv _ => m - (intOf iv).toNat)
  case atStart => exact ⟨0, by omega, rfl, Gn.Own.nil _ _, brefl w⟩
  case round =>
    obtain ⟨k, hk, rfl, ho, hb⟩ := hrel
    rename World => wr
    have BR := Lib.hid hb
    have OR := Lib.hid ho
    obtain ⟨oa, oc, ev⟩ := ho.form
    have OL : (R.take k).length = k := by rw [List.length_take, HM.out]; omega
    rw [OL] at ev
    subst ev
    clear hb ho
    by_cases c : k < m
    · have e1 : decide ((k : Int) < (m : Int)) = true := decide_eq_true (by omega)
      have e2 : decide (k < m) = true := decide_eq_true c
      have k1 : (k : Int) < (m : Int) := by omega
      have k0 : (0 : Int) ≤ (k : Int) := by omega
      have wk : IntKind.i64.wrap ((k : Int) + 1) = (k : Int) + 1 := wrap_in (by omega) (by omega)
      obtain ⟨x, hx⟩ : ∃ x, R[k]? = some x := ⟨_, List.getElem?_eq_getElem (by rw [HM.out]; exact c)⟩
      have TN : Hid (R.take (k + 1) = R.take k ++ [x]) := Lib.hid (take_snoc hx)
      obtain ⟨bb, off, rfl, hbb, hR⟩ := (HS.out.below BR.out).at hx
      obtain ⟨hz, hz1⟩ : bb < w.heap.size ∧ True := by
        obtain ⟨b', off', e, hl, _⟩ := HS.out.at hx
        cases e
        exact ⟨hl, trivial⟩
      clear hx hz1
      obtain ⟨xa, xm, xf⟩ := x
      have CC : Hid (∀ W, Below w.heap.size wr W → W.cell? ⟨bb, off + k * 3, none⟩ = some (.int .u32 xa) ∧ W.cell? ⟨bb, off + k * 3 + 1, none⟩ = some (.int .u32 xm) ∧ W.cell? ⟨bb, off + k * 3 + 2, none⟩ = some (.int .i64 xf)) := Lib.hid fun W q => ⟨(q.cell (p := ⟨bb, _, none⟩) hz).trans (hR 0 _ rfl), (q.cell (p := ⟨bb, _, none⟩) hz).trans (hR 1 _ rfl), (q.cell (p := ⟨bb, _, none⟩) hz).trans (hR 2 _ rfl)⟩
      clear hR
      obtain ⟨v', w7, r7, o7, b7, _, _⟩ := Gn.app okr (w := wr.drew) Try.underlying25 info_grule rfl (OR.out.below (brefl wr).drew) ⟨xa, xm, xf⟩ BR.out.size (by rw [OL]; have := HN.out; omega) (by rw [OL]; have := HN.out; unfold maxLen; omega) 25
      rw [← TN.out] at o7
      obtain ⟨p7, c7, ev7⟩ := o7.form
      obtain ⟨l7, hl7⟩ : ∃ n, (R.take (k + 1)).length = n := ⟨_, rfl⟩
      rw [hl7] at ev7
      subst ev7
      clear hl7
      have R7 : Hid ((Builtin.append_ #[25, 25] 25 #[.slice oa k oc, .slice (some ⟨wr.heap.size, 0, none⟩) 1 1]).run Try.prog (wr.drew.alloc (.cells #[.int .u32 xa, .int .u32 xm, .int .i64 xf] 36)) = .ok (.slice p7 l7 c7) w7) := Lib.hid r7
      have O7 := Lib.hid o7
      have k0' : Below w.heap.size wr wr.drew := (Below.refl _ wr).drew
      have k1' : Below w.heap.size wr (wr.drew.alloc (.cells #[.int .u32 xa, .int .u32 xm, .int .i64 xf] 36)) := k0'.alloc BR.out.size _
      have k7 : Below w.heap.size wr w7 := k0'.trans b7
      have B7 := Lib.hid (BR.out.trans k7)
      obtain ⟨s0, s1, s2⟩ := CC.out _ k0'
      obtain ⟨t0, t1, t2⟩ := CC.out _ k1'
      obtain ⟨v0, v1, v2⟩ := CC.out _ k7
      obtain ⟨r0, r1, r2⟩ := CC.out _ (Below.refl _ wr)
      clear r7 o7 b7 k0' k1' k7 CC OR
      go_upto_region 5 with fail
      go_region_held3 (fun W => W.cell? ⟨bb, off + k * 3, none⟩ = some (.int .u32 xa) ∧ W.cell? ⟨bb, off + k * 3 + 1, none⟩ = some (.int .u32 xm) ∧ W.cell? ⟨bb, off + k * 3 + 2, none⟩ = some (.int .i64 xf))
        (first | exact ⟨s0, s1, s2⟩ | exact ⟨t0, t1, t2⟩ | exact ⟨v0, v1, v2⟩)
        (first | (refine step_append_eqH (by rfl) (.tmp 11) (.tmp 28) _ (by rfl) (.slice oa k oc) (.slice (some ⟨wr.heap.size, 0, none⟩) 1 1) (.slice p7 l7 c7) w7 (by rfl) (by rfl) R7.out ?_))
      all_goals
        go_wp2_with fail
        exact ⟨⟨k + 1, by omega, by go_num, O7.out, B7.out⟩, by simp [intOf]; omega⟩
    · have e1 : decide ((k : Int) < (m : Int)) = false := decide_eq_false (by omega)
      have e2 : decide (k < m) = false := decide_eq_false c
      obtain rfl : k = m := by omega
      have TK : Hid (R.take k = R) := Lib.hid (List.take_of_length_le (Nat.le_of_eq HM.out))
      rw [TK.out] at OR
      go_wp2_with fail
      go_ret
      exact ⟨⟨_, rfl, OR.out⟩, BR.out⟩
set_option maxRecDepth 100000 in
set_option maxHeartbeats 16000000 in
theorem same_c {w : World} {v u : Value} {L : List Ho} (h : Gn.Ss hvs 4 w v L) (g : Gn.Ss hvs 4 w u L) : Calls Try.prog 16 #[v, u] w fun e w' => e = .returned (.bool true) ∧ Below w.heap.size w w' := by
  have HS := Lib.hid h
  have GS := Lib.hid g
  obtain ⟨ra, rc, rfl, c1, c2, _⟩ := h
  obtain ⟨qa, qc, rfl, d1, d2, _⟩ := g
  obtain ⟨m, hm⟩ : ∃ m, L.length = m := ⟨_, rfl⟩
  have HM := Lib.hid hm
  rw [hm] at HS GS c1 d1 ⊢
  have m0 : (0 : Int) ≤ (m : Int) := by omega
  have m2 : (m : Int) ≤ (rc : Int) := by omega
  have m3 : (rc : Int) ≤ 9223372036854775807 := by omega
  have m4 : (m : Int) ≤ (qc : Int) := by omega
  have m5 : (qc : Int) ≤ 9223372036854775807 := by omega
  clear hm
  go_enter Try.func16, Try.ntmps16
  go_wp2_with fail
  go_loopw [5] (fun iv wr => ∃ k : Nat, k ≤ m ∧ iv = .int .i64 (k : Nat) ∧ Below w.heap.size w wr) (fun iv _ => m - (intOf iv).toNat)
  case atStart => exact ⟨0, by omega, rfl, brefl w⟩
  case round =>
    obtain ⟨k, hk, rfl, hb⟩ := hrel
    rename World => wr
    have BR := Lib.hid hb
    clear hb
    by_cases c : k < m
    · have e1 : decide ((k : Int) < (m : Int)) = true := decide_eq_true (by omega)
      have e2 : decide (k < m) = true := decide_eq_true c
      have k1 : (k : Int) < (m : Int) := by omega
      have k0 : (0 : Int) ≤ (k : Int) := by omega
      have wk : IntKind.i64.wrap ((k : Int) + 1) = (k : Int) + 1 := wrap_in (by omega) (by omega)
      obtain ⟨x, hx⟩ : ∃ x, L[k]? = some x := ⟨_, List.getElem?_eq_getElem (by rw [HM.out]; exact c)⟩
      obtain ⟨bb, off, rfl, _, hR⟩ := (HS.out.below BR.out).at hx
      obtain ⟨b2, off2, rfl, _, hQ⟩ := (GS.out.below BR.out).at hx
      clear hx
      obtain ⟨xa, xl, xc, xs⟩ := x
      have y0 := hR 0 _ rfl
      have y1 := hR 1 _ rfl
      have y2 := hR 2 _ rfl
      have y3 := hR 3 _ rfl
      have z0 := hQ 0 _ rfl
      have z1 := hQ 1 _ rfl
      have z2 := hQ 2 _ rfl
      have z3 := hQ 3 _ rfl
      rw [Nat.add_zero] at y0 z0
      simp only at y0 y1 y2 y3 z0 z1 z2 z3
      have f0 : (xa == xa) = true := by simp
      have f1 : (xl == xl) = true := by simp
      have f2 : (xc == xc) = true := by simp
      have f3 : (xs == xs) = true := by simp
      clear hR hQ
      go_upto_region 6 with fail
      go_quiet (fail)
      go_wp2_with fail
      exact ⟨⟨k + 1, by omega, by go_num, bdrew BR.out _⟩, by simp [intOf]; omega⟩
    · have e1 : decide ((k : Int) < (m : Int)) = false := decide_eq_false (by omega)
      have e2 : decide (k < m) = false := decide_eq_false c
      obtain rfl : k = m := by omega
      go_wp2_with fail
      go_ret
      exact ⟨rfl, BR.out⟩
end Go.Proofs.Ytdngoopogajhiaa.Gu
