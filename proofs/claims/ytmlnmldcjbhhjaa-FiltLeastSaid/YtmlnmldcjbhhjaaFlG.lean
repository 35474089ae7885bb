/-
  filt.spread; Best and Jitter of a filter.
  Conditions: what each says.
-/
import Derived.Test.YtmlnmldcjbhhjaaFlF
namespace Go.Proofs.Ytmlnmldcjbhhjaa.Fl
open Go.RowKit Go.ChangeShapes Go.WideShapes Go.ChangeAt Go.Joins
set_option linter.unusedVariables false
set_option linter.unusedSimpArgs false

/-- the distances, in the samples' order; the spread. -/
def dss (now ppm : Int) (L : List Sm) : List Int := L.map (ds now ppm)
def spr (now ppm : Int) (L : List Sm) : Int := wsum (srt (dss now ppm L)) L.length
theorem dss_take {now ppm : Int} {L : List Sm} {k : Nat} {x : Sm} (h : L[k]? = some x) : (dss now ppm L).take k ++ [ds now ppm x] = (dss now ppm L).take (k + 1) := by
  unfold dss
  rw [← List.map_take, ← List.map_take]
  obtain ⟨h1, h2⟩ := List.getElem?_eq_some_iff.1 h
  rw [List.take_succ_eq_append_getElem h1, h2, List.map_append]
  rfl
theorem dss_range {now ppm : Int} {L : List Sm} (hL : ∀ s ∈ L, okSm s ∧ s.at' ≤ now) (hp : 0 ≤ ppm) : ∀ x ∈ dss now ppm L, 0 ≤ x ∧ x ≤ 1099511627776 := by
  intro x hx
  obtain ⟨s, hs, rfl⟩ := List.mem_map.1 hx
  exact ds_range (hL s hs).1 (hL s hs).2 hp
theorem srt_range {now ppm : Int} {L : List Sm} (hL : ∀ s ∈ L, okSm s ∧ s.at' ≤ now) (hp : 0 ≤ ppm) : ∀ x ∈ srt (dss now ppm L), 0 ≤ x ∧ x ≤ 1099511627776 := fun x hx => dss_range hL hp x ((srt_perm _).mem_iff.1 hx)
theorem spr_range {now ppm : Int} {L : List Sm} (hL : ∀ s ∈ L, okSm s ∧ s.at' ≤ now) (hp : 0 ≤ ppm) : 0 ≤ spr now ppm L ∧ spr now ppm L ≤ 1099511627776 := wsum_le (srt_range hL hp) _
set_option maxRecDepth 100000 in
set_option maxHeartbeats 4000000 in
theorem spread_c (L : List Sm) (now ppm : Int) (b off cap : Nat) (w : World) (hL : ∀ s ∈ L, okSm s ∧ s.at' ≤ now) (h0 : 0 < L.length) (h8 : L.length ≤ 8) (hc1 : L.length ≤ cap) (hc2 : cap ≤ 9223372036854775807) (hn : okN now ppm) (hl : Ls w b off L) :
    Calls Try.prog 20 #[.slice (some ⟨b, off, none⟩) L.length cap, .int .i64 now, .int .i64 ppm] w fun e w' => e = .returned (.int .i64 (spr now ppm L)) ∧ Below w.heap.size w w' := by
  have HL := Lib.hid hL
  have HS := Lib.hid hl
  have HN := Lib.hid hn
  have WR := Lib.hid (fun k => wsum_range (srt_range (ppm := ppm) hL hn.2.1) k)
  have SR := Lib.hid (srt_range (ppm := ppm) hL hn.2.1)
  have SL : Hid ((srt (dss now ppm L)).length = L.length) := Lib.hid (by rw [srt_len]; unfold dss; rw [List.length_map])
  have HE : Hid (spr now ppm L = wsum (srt (dss now ppm L)) L.length) := Lib.hid rfl
  rw [HE.out]
  obtain ⟨m, hm⟩ : ∃ m, L.length = m := ⟨_, rfl⟩
  have HM := Lib.hid hm
  have DL : Hid ((dss now ppm L).length = m) := Lib.hid (by unfold dss; rw [List.length_map]; exact hm)
  have SO := Lib.hid (fun w base v (h : OwnT w base v (dss now ppm L)) => sort_c h (by rw [DL.out, ← hm]; exact h0) (by rw [DL.out]; omega))
  rw [hm] at h0 h8 hc1 SL ⊢
  have m0 : (0 : Int) < (m : Int) := by omega
  have m1 : (m : Int) ≤ 8 := by omega
  have m2 : (m : Int) ≤ (cap : Int) := by omega
  have m3 : (cap : Int) ≤ 9223372036854775807 := by omega
  clear hm hL hl hn HE
  go_enter Try.func20, Try.ntmps20
  go_wp2_with fail
  go_loopw [7, 15] (fun dv iv wr => ∃ k : Nat, k ≤ m ∧ iv = .int .i64 (k : Nat) ∧ OwnT wr w.heap.size dv ((dss now ppm L).take k) ∧ Below w.heap.size w wr) (fun _ iv _ => m - (intOf iv).toNat)
  case atStart => exact ⟨0, by omega, rfl, OwnT.nil _ _, brefl w⟩
  case round =>
    obtain ⟨k, hk, rfl, ho, hb⟩ := hrel
    rename World => wr
    have B2 := Lib.hid hb
    have HO := Lib.hid ho
    clear hb ho
    by_cases c : k < m
    · have e1 : decide ((k : Int) < (m : Int)) = true := decide_eq_true (by omega)
      have e2 : decide (k < m) = true := decide_eq_true c
      have k1 : (k : Int) < (m : Int) := by omega
      have wk : IntKind.i64.wrap ((k : Int) + 1) = (k : Int) + 1 := wrap_in (by omega) (by omega)
      obtain ⟨x, hx⟩ : ∃ x, L[k]? = some x := ⟨_, List.getElem?_eq_getElem (by rw [HM.out]; exact c)⟩
      obtain ⟨y0, y1, y2, y3⟩ := (HS.out.below B2.out).four hx
      have hxr := HL.out x (List.mem_of_getElem? hx)
      have DC := Lib.hid (fun w => distance_c x now ppm w hxr.1 hxr.2 HN.out)
      have TK := Lib.hid (dss_take (now := now) (ppm := ppm) hx)
      have lk : Hid (((dss now ppm L).take k).length = k) := Lib.hid (by rw [List.length_take, DL.out]; omega)
      generalize ds now ppm x = r at *
      obtain ⟨xo, x2, x3, x4⟩ := x
      replace DC : Hid (∀ w, Calls Try.prog 24 #[.agg #[.int .i64 xo, .int .i64 x2, .int .i64 x3, .int .i64 x4], .int .i64 now, .int .i64 ppm] w fun e w' => e = .returned (.int .i64 r) ∧ Below w.heap.size w w') := DC
      simp only at y0 y1 y2 y3
      have B3 := Lib.hid (balloc B2.out (.cells #[.int .i64 xo, .int .i64 x2, .int .i64 x3, .int .i64 x4] 30))
      have HO3 := Lib.hid (ownT_below HO.out (balloc (brefl wr) (.cells #[.int .i64 xo, .int .i64 x2, .int .i64 x3, .int .i64 x4] 30)))
      clear hx hxr HO
      go_wp2_with fail
      refine (DC.out _).mono ?_
      rintro e w3 ⟨rfl, hb⟩
      have B4 := Lib.hid (bstep B3.out hb)
      obtain ⟨v', w4, hr, o2, b2, _⟩ := appT (ownT_below HO3.out hb) r B4.out.size (by rw [lk.out]; omega) 54
      rw [TK.out] at o2
      have O2 := Lib.hid o2
      have B5 := Lib.hid (B4.out.trans b2)
      have HR := Lib.hid hr
      clear hb o2 b2 hr B4 HO3
      go_wp2_with (first | (at_builtin; refine wpList_append_eqL rfl _ _ 54 rfl _ _ v' w4 rfl rfl HR.out ?_))
      exact ⟨⟨k + 1, by omega, by go_num, O2.out, B5.out⟩, by simp [intOf]; omega⟩
    · have e1 : decide ((k : Int) < (m : Int)) = false := decide_eq_false (by omega)
      have e2 : decide (k < m) = false := decide_eq_false c
      obtain rfl : k = m := by omega
      have O3 := HO.out
      rw [List.take_of_length_le (by rw [DL.out]; exact Nat.le_refl _)] at O3
      have OO := Lib.hid O3
      clear O3 HO
      go_wp2_with fail
      refine (SO.out _ _ _ OO.out).mono ?_
      rintro e w3 ⟨rfl, o3, b3⟩
      have B3 := Lib.hid (B2.out.trans (b3 B2.out.size))
      have TS := o3.ts
      obtain ⟨a, dc, ev, q1, q2, q3⟩ := TS
      rw [SL.out] at ev q1 q3
      obtain ⟨db, dof, rfl, hdb, QC⟩ := q3 h0
      subst ev
      have QH := Lib.hid QC
      clear q3 QC o3 b3 OO
      have q4 : (k : Int) ≤ (dc : Int) := by omega
      have q5 : (dc : Int) ≤ 9223372036854775807 := by omega
      go_wp2_with fail
      go_loopw [10, 31] (fun sv iv wr => ∃ j : Nat, j ≤ k ∧ iv = .int .i64 (j : Nat) ∧ sv = .int .i64 (wsum (srt (dss now ppm L)) j) ∧ wr = w3) (fun _ iv _ => k - (intOf iv).toNat)
      case atStart => exact ⟨0, by omega, rfl, rfl, rfl⟩
      case round =>
        obtain ⟨j, hj, rfl, rfl, hw⟩ := hrel
        rename World => wq
        subst hw
        by_cases c2 : j < k
        · have e3 : decide ((j : Int) < (k : Int)) = true := decide_eq_true (by omega)
          have e4 : decide (j < k) = true := decide_eq_true c2
          have k2 : (j : Int) < (k : Int) := by omega
          have wk : IntKind.i64.wrap ((j : Int) + 1) = (j : Int) + 1 := wrap_in (by omega) (by omega)
          obtain ⟨x, hx⟩ : ∃ x, (srt (dss now ppm L))[j]? = some x := ⟨_, List.getElem?_eq_getElem (by rw [SL.out]; exact c2)⟩
          have y0 := QH.out j x hx
          have hxr := SR.out x (List.mem_of_getElem? hx)
          have r1 := WR.out j
          have r2 := WR.out (j + 1)
          have NX : Hid (wsum (srt (dss now ppm L)) (j + 1) = wsum (srt (dss now ppm L)) j + x / 2 ^ (j + 1)) := Lib.hid (by rw [wsum, List.getD_eq_getElem?_getD, hx]; rfl)
          obtain ⟨sm, hsm⟩ : ∃ sm, wsum (srt (dss now ppm L)) j = sm := ⟨_, rfl⟩
          rw [hsm]
          go_upto_region 12 with fail
          go_wp2_with fail
          rw [NX.out, hsm] at r2
          rw [hsm] at r1
          have q0 : 0 ≤ x / 2 ^ (j + 1) := Int.ediv_nonneg hxr.1 (Int.le_of_lt (Int.pow_pos (by decide)))
          have pw : (0 : Int) ≤ 1099511627776 / 2 ^ (j + 1) := Int.ediv_nonneg (by decide) (Int.le_of_lt (Int.pow_pos (by decide)))
          have W5 : wrap64 (sm + x / 2 ^ (j + 1)) = sm + x / 2 ^ (j + 1) := by
            generalize x / 2 ^ (j + 1) = h at *
            unfold wrap64
            omega
          exact ⟨⟨j + 1, by omega, by go_num, by rw [W5, NX.out, hsm], trivial⟩, by simp [intOf]; omega⟩
        · have e3 : decide ((j : Int) < (k : Int)) = false := decide_eq_false (by omega)
          have e4 : decide (j < k) = false := decide_eq_false c2
          obtain rfl : j = k := by omega
          go_wp2_with fail
          go_ret
          exact ⟨rfl, B3.out⟩

theorem Fm.all {w : World} {b : Nat} {L : List Sm} (h : Fm w b L) : L.length ≤ 8 ∧ (8 : Nat) ≤ 9223372036854775807 ∧ Ls w b 0 L := ⟨h.len, by decide, h.ls⟩
set_option maxRecDepth 100000 in
set_option maxHeartbeats 1000000 in
theorem Jitter_c {w : World} {b : Nat} {L : List Sm} (h : Fm w b L) (h0 : 0 < L.length) (now ppm : Int) (hL : ∀ s ∈ L, okSm s ∧ s.at' ≤ now) (hn : okN now ppm) :
    Calls Try.prog 11 #[.pointer (some ⟨b, 0, none⟩), .int .i64 now, .int .i64 ppm] w fun e w' => e = .returned (.tuple #[.int .i64 (jit now ppm L), .int .i64 (spr now ppm L), .int .i64 0]) ∧ Below w.heap.size w w' := by
  have HF := Lib.hid h
  have JC := Lib.hid (fun (w' : World) (q : Below w.heap.size w w') => jitter_c L now ppm b 0 8 w' hL h0 h.len h.len (by decide) hn (h.below q).ls)
  have SC := Lib.hid (fun (w' : World) (q : Below w.heap.size w w') => spread_c L now ppm b 0 8 w' hL h0 h.len h.len (by decide) hn (h.below q).ls)
  have SM := Lib.hid (fun (w' : World) (q : Below w.heap.size w w') => samples_c (h.below q))
  have RF : Hid (Calls Try.prog 14 #[.pointer (some ⟨b, 0, none⟩), .int .i64 now, .int .i64 ppm] w fun e w' => e = .returned (.int .i64 0) ∧ w' = w) := Lib.hid (by
    cases L with
    | nil => simp at h0
    | cons s R =>
      have := refusal_some h now ppm
      rwa [if_pos ⟨(hL s (by simp)).2, hn.1.2, hn.2.1, hn.2.2⟩] at this)
  generalize jit now ppm L = j at *
  generalize spr now ppm L = z at *
  generalize L.length = m at *
  clear hL hn h
  go_enter Try.func11, Try.ntmps11
  go_wp2_with fail
  refine RF.out.mono ?_
  rintro e w1 ⟨rfl, rfl⟩
  go_wp2_with fail
  refine (SM.out _ (brefl _)).mono ?_
  rintro e w2 ⟨rfl, hb⟩
  have B2 := Lib.hid hb
  clear hb
  go_wp2_with fail
  refine (JC.out _ B2.out).mono ?_
  rintro e w3 ⟨rfl, hb⟩
  have B3 := Lib.hid (bstep B2.out hb)
  clear hb
  go_wp2_with fail
  refine (SM.out _ B3.out).mono ?_
  rintro e w4 ⟨rfl, hb⟩
  have B4 := Lib.hid (bstep B3.out hb)
  clear hb
  go_wp2_with fail
  refine (SC.out _ B4.out).mono ?_
  rintro e w5 ⟨rfl, hb⟩
  have B5 := Lib.hid (bstep B4.out hb)
  clear hb
  go_wp2_with fail
  go_ret3
  exact ⟨rfl, B5.out⟩
/-- a refusal that is told. -/
theorem Jitter_no {w : World} {p : Option Addr} {now ppm : Int} {k : Int} (hk : (k != 0) = true) (RF : Calls Try.prog 14 #[.pointer p, .int .i64 now, .int .i64 ppm] w fun e w' => e = .returned (.int .i64 k) ∧ w' = w) :
    Calls Try.prog 11 #[.pointer p, .int .i64 now, .int .i64 ppm] w fun e w' => e = .returned (.tuple #[.int .i64 0, .int .i64 0, .int .i64 k]) ∧ Below w.heap.size w w' := by
  have RR := Lib.hid RF
  clear RF
  go_enter Try.func11, Try.ntmps11
  go_wp2_with fail
  refine RR.out.mono ?_
  rintro e w1 ⟨rfl, rfl⟩
  go_wp2_with fail
  go_ret3
  exact ⟨rfl, brefl _⟩
end Go.Proofs.Ytmlnmldcjbhhjaa.Fl
