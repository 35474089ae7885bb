/-
  Both disks side by side; the law's into and whole.
  Conditions: none.
-/
import Derived.Test.YtpnphmfpandmkaaDkP
import Derived.Test.YtpnphmfpandmkaaDkJ
import Derived.BigQuiet
namespace Go.Proofs.Ytpnphmfpandmkaa.Dk
open Go.RowKit Go.ChangeShapes Go.WideShapes Go.ChangeAt Go.Joins Go.Maps By Ct
set_option linter.unusedVariables false
set_option linter.unusedSimpArgs false

/-- both disks, in blocks of their own. -/
def Bo (w : World) (d m : Nat) (s : Dk) (X Y : Nat → Prop) : Prop := Pm w d s X ∧ Rm w m s Y ∧ ∀ k, X k → ¬ Y k
theorem Bo.below {w w' : World} {d m : Nat} {s : Dk} {X Y : Nat → Prop} (h : Bo w d m s X Y) (q : Below w.heap.size w w') : Bo w' d m s X Y := ⟨h.1.below q, h.2.1.below q, h.2.2⟩
theorem Bo.tu {w w' : World} {d m : Nat} {s : Dk} {X Y Z : Nat → Prop} (h : Bo w d m s X Y) (q : Tu Z w w') (hx : ∀ k, Z k → ¬ X k) (hy : ∀ k, Z k → ¬ Y k) : Bo w' d m s X Y := ⟨h.1.tu q hx, h.2.1.tu q hy, h.2.2⟩
/-- behind a call of both. -/
def Bt (w w' : World) (d m : Nat) (X Y : Nat → Prop) (s' : Dk) : Prop := ∃ X' Y', Bo w' d m s' X' Y' ∧ (∀ k, X' k → X k ∨ w.heap.size ≤ k) ∧ (∀ k, Y' k → Y k ∨ w.heap.size ≤ k) ∧ Tu (fun k => X k ∨ Y k) w w'
theorem Bt.same {w w' : World} {d m : Nat} {s : Dk} {X Y : Nat → Prop} (h : Bo w d m s X Y) (q : Below w.heap.size w w') : Bt w w' d m X Y s := ⟨X, Y, h.below q, fun k hk => .inl hk, fun k hk => .inl hk, tu_below q⟩
/-- the program's call, then the document's. -/
theorem bt_of {w w1 w2 : World} {d m : Nat} {s s' : Dk} {X Y : Nat → Prop} (h : Bo w d m s X Y) (p : Pt w w1 d X s') (r : ∀ (H : Rm w1 m s Y), Rt w1 w2 m Y s') : Bt w w2 d m X Y s' := by
  obtain ⟨X1, hp, hx, ht⟩ := p
  have H1 : Rm w1 m s Y := h.2.1.tu ht h.2.2
  have dis : ∀ k, X1 k → ¬ Y k := fun k hk hy => (hx k hk).elim (fun q => h.2.2 k q hy) (fun q => by have := h.2.1.2.2.1 k hy; omega)
  obtain ⟨Y2, hr, hy, hu⟩ := r H1
  refine ⟨X1, Y2, ⟨hp.tu hu (fun k hk q => dis k q hk), hr, fun k hk q => (hy k q).elim (dis k hk) (fun z => by have := hp.2.2.1 k hk; omega)⟩, hx, fun k hk => (hy k hk).imp id (fun z => Nat.le_trans ht.size z), ?_⟩
  exact (ht.mono (fun i q => .inl q)).tr (hu.mono (fun i q => .inr q) : Tu (fun k => X k ∨ Y k) w1 w2) (fun _ _ q => q)
theorem Bt.tr {w w1 w2 : World} {d m : Nat} {X Y X1 Y1 : Nat → Prop} {s' : Dk} (h : Bt w1 w2 d m X1 Y1 s') (hx : ∀ k, X1 k → X k ∨ w.heap.size ≤ k) (hy : ∀ k, Y1 k → Y k ∨ w.heap.size ≤ k) (ht : Tu (fun k => X k ∨ Y k) w w1) : Bt w w2 d m X Y s' := by
  obtain ⟨X2, Y2, hb, hx2, hy2, ht2⟩ := h
  refine ⟨X2, Y2, hb, fun k hk => (hx2 k hk).elim (hx k) (fun q => .inr (Nat.le_trans ht.size q)), fun k hk => (hy2 k hk).elim (hy k) (fun q => .inr (Nat.le_trans ht.size q)), ht.tr ht2 fun i hi q => ?_⟩
  rcases q with q | q
  · exact (hx i q).elim .inl (fun z => by omega)
  · exact (hy i q).elim .inr (fun z => by omega)
theorem into_c (n k : Int) (w : World) (h1 : -9223372036854775808 ≤ n) (h2 : n ≤ 9223372036854775807) (h3 : 0 < k) (h4 : k ≤ 4611686018427387904) : Calls Try.prog 16 #[.int .i64 n, .int .i64 k] w fun e w' => (∃ r : Nat, (r : Int) < k ∧ e = .returned (.int .i64 (r : Int))) ∧ w' = w := by
  have a1 := Int.tmod_lt_of_pos n h3
  have a2 : -k < n.tmod k := by
    have := Int.lt_tmod_of_pos n h3
    omega
  obtain ⟨t, ht⟩ : ∃ t, n.tmod k = t := ⟨_, rfl⟩
  have b0 : 0 ≤ t + k := by omega
  have b1 := Int.tmod_nonneg k b0
  have b2 := Int.tmod_lt_of_pos (t + k) h3
  obtain ⟨r, hr⟩ : ∃ r : Nat, (r : Int) = (t + k).tmod k := ⟨((t + k).tmod k).toNat, by omega⟩
  have R : Hid ((r : Int) < k) := Lib.hid (by omega)
  rw [ht] at a1 a2
  have W1 : IntKind.i64.wrap t = t := wrap_in (by omega) (by omega)
  have W2 : IntKind.i64.wrap (t + k) = t + k := wrap_in (by omega) (by omega)
  have W3 : IntKind.i64.wrap ((t + k).tmod k) = (r : Int) := by rw [← hr]; exact wrap_in (by omega) (by omega)
  have HR : Hid ((r : Int) = (t + k) % k) := Lib.hid (by rw [hr, Int.tmod_eq_emod_of_nonneg b0])
  have kz : ¬ k = 0 := by omega
  clear hr b0 b1 b2
  go_enter Try.func16, Try.ntmps16
  go_wp2_with fail
  go_ret
  exact ⟨⟨r, R.out, by rw [HR.out]; rfl⟩, rfl⟩
set_option maxRecDepth 100000 in
set_option maxHeartbeats 16000000 in
theorem whole_c {w : World} {d m : Nat} {s : Dk} {X Y : Nat → Prop} (h : Bo w d m s X Y) (hl : s.fs.length ≤ 80000) : Calls Try.prog 11 #[.pointer (some ⟨d, 0, none⟩), .pointer (some ⟨m, 0, none⟩)] w fun e w' => e = .returned (.bool true) ∧ Below w.heap.size w w' := by
  have H := Lib.hid h
  have HL := Lib.hid hl
  have K1 := Lib.hid (Names_c h.1 (by omega))
  have WF := Lib.hid h.1.1
  obtain ⟨n, hn⟩ : ∃ n, (names s).length = n := ⟨_, rfl⟩
  have HN := Lib.hid hn
  have n1 : (n : Int) ≤ 80000 := by have := names_len s; omega
  have n0 : (0 : Int) ≤ (n : Int) := by omega
  clear h hl hn
  go_enter Try.func11, Try.ntmps11
  go_wp2_with fail
  refine K1.out.mono ?_
  rintro e w1 ⟨v1, rfl, o1, hb1⟩
  have O1 := Lib.hid o1
  have B1 := Lib.hid hb1
  obtain ⟨a1, c1, rfl⟩ := ownS_form o1
  rw [HN.out] at O1 ⊢
  have K2 := Lib.hid (rNames_c (H.out.2.1.below hb1) (by have := HL.out; omega))
  clear K1 o1 hb1
  go_wp2_with fail
  refine K2.out.mono ?_
  rintro e w2 ⟨v2, rfl, o2, hb2⟩
  have O2 := Lib.hid o2
  have P1 := Lib.hid (row_below O1.out hb2 : OwnS w2 w.heap.size _ (names s))
  have B2 := Lib.hid (bstep B1.out hb2)
  obtain ⟨a2, c2, rfl⟩ := ownS_form o2
  rw [HN.out] at O2 ⊢
  clear K2 o2 hb2 O1 B1
  go_upto_region 6 with fail
  go_loopw [7] (fun iv wr => ∃ i : Nat, i ≤ n ∧ iv = .int .i64 (i : Nat) ∧ Below w2.heap.size w2 wr) (fun iv _ => n - (intOf iv).toNat)
  case atStart => exact ⟨0, Nat.zero_le _, rfl, brefl w2⟩
  case round =>
    obtain ⟨i, hi, rfl, hb⟩ := hrel
    rename World => wr
    have HB := Lib.hid hb
    clear hb
    by_cases c : i < n
    · have e1 : decide ((i : Int) < (n : Int)) = true := decide_eq_true (by omega)
      have i1 : (i : Int) < (n : Int) := by omega
      have i0 : (0 : Int) ≤ (i : Int) := by omega
      obtain ⟨x, hx⟩ : ∃ x, (names s)[i]? = some x := ⟨_, List.getElem?_eq_getElem (by rw [HN.out]; exact c)⟩
      have Q1 := row_below P1.out HB.out
      have Q2 := row_below O2.out HB.out
      rw [← HN.out] at Q1 Q2
      obtain ⟨g1, d1, q1, _, l1, r1, t1, k1⟩ := ownS_at (Q1 : OwnS wr w.heap.size _ (names s)) (by rw [HN.out]; omega)
      obtain ⟨g2, d2, q2, _, l2, r2, t2, k2⟩ := ownS_at (Q2 : OwnS wr w1.heap.size _ (names s)) (by rw [HN.out]; omega)
      cases q1
      cases q2
      rw [HN.out] at r1 r2
      have y1 := (k1 i x hx).1
      have y2 := (k2 i x hx).1
      have s1 : (n : Int) ≤ (c1 : Int) := by omega
      have s2 : (c1 : Int) ≤ 9223372036854775807 := by unfold maxLen at t1; omega
      have s3 : (n : Int) ≤ (c2 : Int) := by omega
      have s4 : (c2 : Int) ≤ 9223372036854775807 := by unfold maxLen at t2; omega
      have L1 := Lib.hid l1
      have L2 := Lib.hid l2
      have BW := Lib.hid (bstep B2.out HB.out)
      have HM := H.out.below BW.out
      have R1 := Lib.hid (Read_c (nm := st x) HM.1)
      have OX : Hid (okN x = true) := Lib.hid (names_ok WF.out x (List.mem_of_getElem? hx)).1
      have SZ : Hid ((st x).size ≤ 9223372036854775807) := Lib.hid (by have := (okN_le OX.out).2; show x.toArray.size ≤ _; rw [List.size_toArray]; omega)
      have R2 : Hid (∀ z, Below wr.heap.size wr z → Calls Try.prog 24 #[.pointer (some ⟨m, 0, none⟩), .string (st x)] z fun e w' => e = .returned (.tuple #[.string (bs8 (readD s (st x).data.toList)), .int .i64 (readE s (st x).data.toList)]) ∧ w' = z) := Lib.hid (fun z q => rRead_c (HM.2.1.below q) (by have := HL.out; omega) SZ.out)
      have DB : Hid (∀ y ∈ readD s (st x).data.toList, y < 256) := Lib.hid (by
        intro y hy
        unfold readD at hy
        split at hy
        · cases hy
        · split at hy
          · cases hy
          · cases hg : get s.fs (st x).data.toList with
            | none => rw [hg] at hy; cases hy
            | some dt => rw [hg] at hy; exact (WF.out.data _ (get_mem hg)).1 y hy)
      generalize readD s (st x).data.toList = dt at *
      generalize readE s (st x).data.toList = er at *
      clear hx Q1 Q2 k1 k2 l1 l2 r1 r2 t1 t2 HM
      go_upto_region 8 with fail
      go_wp2_with fail
      refine R1.out.mono ?_
      rintro e w3 ⟨u, rfl, ou, hb3⟩
      have OU := Lib.hid ou
      have B3 := Lib.hid hb3
      have z1 := (hb3.cell (p := ⟨g1, i, none⟩) L1.out).trans y1
      have z2 := (hb3.cell (p := ⟨g2, i, none⟩) L2.out).trans y2
      obtain ⟨ua, uc, rfl⟩ := own_form ou
      clear R1 ou hb3 y1 y2
      go_wp2_with fail
      refine (R2.out _ B3.out).mono ?_
      rintro e w4 ⟨rfl, hw⟩
      subst hw
      have CV : ∀ j, (convert 29 9 (.slice ua dt.length uc)).run Try.prog (w4.drewN j) = .ok (.string (bs8 dt)) (w4.drewN j) := fun j => own_str8 OU.out DB.out (bdrew (brefl _) j)
      generalize bs8 dt = SB at *
      generalize dt.length = dl at *
      generalize st x = sx at *
      clear R2 OU
      go_upto_region 10 with fail
      go_quiet (fail)
      go_wp2_with fail
      exact ⟨⟨i + 1, by omega, by go_num, bdrew (bstep HB.out B3.out) _⟩, by simp [intOf]; omega⟩
    · have e1 : decide ((i : Int) < (n : Int)) = false := decide_eq_false (by omega)
      go_wp2_with fail
      go_ret
      exact ⟨rfl, bstep B2.out HB.out⟩
end Go.Proofs.Ytpnphmfpandmkaa.Dk
