/-
  The document's Ask and New of a guard.
  Conditions: none but that the guard lies in memory and is in order.
-/
import Derived.Test.YtdngoopogajhiaaGuB
namespace Go.Proofs.Ytdngoopogajhiaa.Gu
open Go.RowKit Go.ChangeShapes Go.WideShapes Go.ChangeAt Go.Joins Fl
set_option linter.unusedVariables false
set_option linter.unusedSimpArgs false

theorem askX_no {G : Gd} {m r : Int} (h : ¬ askO G m r) : askX G m r = 2 := by unfold askX; rw [if_neg h]
theorem askX_ok {G : Gd} {m r : Int} (h : askO G m r) : askX G m r = 0 := by unfold askX; rw [if_pos h]
theorem askV_no {G : Gd} {a m r : Int} (h : ¬ askO G m r) : askV G a m r = 0 := by unfold askV; rw [if_neg h]
theorem askV_ok {G : Gd} {a m r : Int} (h : askO G m r) : askV G a m r = vd (flg a G.rules) m (fast a r G.hosts) := by unfold askV; rw [if_pos h]
theorem askG_no {G : Gd} {a m r : Int} (h : ¬ askO G m r) : askG G a m r = G := by unfold askG; rw [if_neg h]
theorem askG_ok {G : Gd} {a m r : Int} (h : askO G m r) : askG G a m r = ⟨G.rules, seeH a r G.hosts, r⟩ := by unfold askG; rw [if_pos h]
theorem DG.set {w : World} {b : Nat} {Z : Nat → Prop} {G : Gd} (h : DG w b Z G) (r : Int) : DG (w.setCell ⟨b, 2, none⟩ (.int .i64 r)) b Z ⟨G.rules, G.hosts, r⟩ := by
  obtain ⟨rv, hv, h1, h2, h3, h4, h5, h6, h7⟩ := h
  refine ⟨rv, hv, blk_set h1 2 _, h2, ss_keep h3 (fun g hg _ => set_other (h5 g hg).2) (by simp), ss_keep h4 (fun g hg _ => set_other (h6 g hg).2) (by simp), h5, h6, fun i hi => by simpa using h7 i hi⟩
theorem In.last {k : Nat} {G : Gd} (h : In k G) {r : Int} (h1 : G.last ≤ r) (h2 : r ≤ 288230376151711744) : In k ⟨G.rules, G.hosts, r⟩ := by
  obtain ⟨p1, p2, p3, p4, p5, p6, p7⟩ := h
  exact ⟨p1, p2, p3, fun x hx => (p4 x hx).more (Nat.le_refl _) h1, p5, by show 0 ≤ r; omega, h2⟩
set_option maxRecDepth 100000 in
set_option maxHeartbeats 16000000 in
theorem rAsk_c {w : World} {b k : Nat} {Z : Nat → Prop} {G : Gd} (h : DG w b Z G) (hk : k ≤ 100000) (hi : In k G) (a : Int) (ha : 0 ≤ a ∧ a ≤ 4294967295) (m r : Int) :
    Calls Try.prog 12 #[.pointer (some ⟨b, 0, none⟩), .int .u32 a, .int .i64 m, .int .i64 r] w fun e w' => (e = .returned (.tuple #[.int .i64 (askV G a m r), .int .i64 (askX G m r)]) ∧ ∃ Z', DG w' b Z' (askG G a m r) ∧ ∀ i, Z' i → Z i ∨ w.heap.size ≤ i) ∧ Tu (Td b) w w' := by
  have HG := Lib.hid h
  have HI := Lib.hid hi
  obtain ⟨_, _, _, _, _, l0, _⟩ := hi
  obtain ⟨rv, hv, h1, _⟩ := h
  have z2 := (h1.2 2 _ rfl).1
  have z2f := (h1.2 2 _ rfl).2
  have TR0 := Lib.hid (Tu.rf (Td b) w)
  clear h1
  obtain ⟨gl, hgl⟩ : ∃ z, G.last = z := ⟨_, rfl⟩
  rw [hgl] at z2 l0
  have HL := Lib.hid hgl
  clear hgl
  by_cases c0 : m < 0
  · have e0 := decide_eq_true c0
    have NO : ¬ askO G m r := fun z => by
      obtain ⟨z1, z2, z3⟩ := z
      have := HL.out
      omega
    have F1 := Lib.hid (askX_no NO)
    have F2 := Lib.hid (askV_no (a := a) NO)
    have F3 := Lib.hid (askG_no (a := a) NO)
    clear NO
    go_enter Try.func12, Try.ntmps12
    go_wp2_with fail
    go_ret2
    exact ⟨⟨by rw [F1.out, F2.out]; rfl, _, by rw [F3.out]; exact HG.out, fun _ z => .inl z⟩, TR0.out⟩
  · have e0 := decide_eq_false c0
    by_cases c1 : 7 < m
    · have e1 := decide_eq_true c1
      have NO : ¬ askO G m r := fun z => by
        obtain ⟨z1, z2, z3⟩ := z
        have := HL.out
        omega
      have F1 := Lib.hid (askX_no NO)
      have F2 := Lib.hid (askV_no (a := a) NO)
      have F3 := Lib.hid (askG_no (a := a) NO)
      clear NO
      go_enter Try.func12, Try.ntmps12
      go_wp2_with fail
      go_ret2
      exact ⟨⟨by rw [F1.out, F2.out]; rfl, _, by rw [F3.out]; exact HG.out, fun _ z => .inl z⟩, TR0.out⟩
    · have e1 := decide_eq_false c1
      by_cases c2 : r < 0
      · have e2 := decide_eq_true c2
        have NO : ¬ askO G m r := fun z => by
          obtain ⟨z1, z2, z3⟩ := z
          have := HL.out
          omega
        have F1 := Lib.hid (askX_no NO)
        have F2 := Lib.hid (askV_no (a := a) NO)
        have F3 := Lib.hid (askG_no (a := a) NO)
        clear NO
        go_enter Try.func12, Try.ntmps12
        go_wp2_with fail
        go_ret2
        exact ⟨⟨by rw [F1.out, F2.out]; rfl, _, by rw [F3.out]; exact HG.out, fun _ z => .inl z⟩, TR0.out⟩
      · have e2 := decide_eq_false c2
        by_cases c3 : 288230376151711744 < r
        · have e3 := decide_eq_true c3
          have NO : ¬ askO G m r := fun z => by
            obtain ⟨z1, z2, z3⟩ := z
            have := HL.out
            omega
          have F1 := Lib.hid (askX_no NO)
          have F2 := Lib.hid (askV_no (a := a) NO)
          have F3 := Lib.hid (askG_no (a := a) NO)
          clear NO
          go_enter Try.func12, Try.ntmps12
          go_wp2_with fail
          go_ret2
          exact ⟨⟨by rw [F1.out, F2.out]; rfl, _, by rw [F3.out]; exact HG.out, fun _ z => .inl z⟩, TR0.out⟩
        · have e3 := decide_eq_false c3
          by_cases c4 : r < gl
          · have e4 := decide_eq_true c4
            have NO : ¬ askO G m r := fun z => by
              obtain ⟨z1, z2, z3⟩ := z
              have := HL.out
              omega
            have F1 := Lib.hid (askX_no NO)
            have F2 := Lib.hid (askV_no (a := a) NO)
            have F3 := Lib.hid (askG_no (a := a) NO)
            clear NO
            go_enter Try.func12, Try.ntmps12
            go_wp2_with fail
            go_ret2
            exact ⟨⟨by rw [F1.out, F2.out]; rfl, _, by rw [F3.out]; exact HG.out, fun _ z => .inl z⟩, TR0.out⟩
          · have e4 := decide_eq_false c4
            have OK : askO G m r := ⟨by omega, by omega, by rw [HL.out]; omega⟩
            have F1 := Lib.hid (askX_ok OK)
            have F2 := Lib.hid (askV_ok (a := a) OK)
            have F3 := Lib.hid (askG_ok (a := a) OK)
            have FR : Hid (0 ≤ flg a G.rules ∧ flg a G.rules ≤ 127) := Lib.hid (flg_in HI.out.2.1.1)
            have LR : Hid (G.rules.length ≤ 64) := Lib.hid HI.out.2.1.2
            have D1 := Lib.hid (HG.out.set r)
            have I1 := Lib.hid (HI.out.last (r := r) (by rw [HL.out]; omega) (by omega))
            have T1 := Lib.hid (TR0.out.set 2 (.int .i64 r))
            have S1 := Lib.hid (rSee_c D1.out hk I1.out a ha r ⟨Int.le_refl _, by omega⟩)
            obtain ⟨f, hf⟩ : ∃ z, flg a G.rules = z := ⟨_, rfl⟩
            obtain ⟨q, hq⟩ : ∃ z, fast a r G.hosts = z := ⟨_, rfl⟩
            have HF := Lib.hid hf
            rw [hf, hq] at F2
            rw [hf] at FR
            have SZ : Hid ((w.setCell ⟨b, 2, none⟩ (.int .i64 r)).heap.size = w.heap.size) := Lib.hid (by simp)
            have HH := Lib.hid (fun (x : Int) (hx : 0 < x ∧ x ≤ 127) (W : World) => has_c f x W FR.out hx)
            have SS : Hid (Calls Try.prog 23 #[.pointer (some ⟨b, 0, none⟩), .int .u32 a, .int .i64 r] (w.setCell ⟨b, 2, none⟩ (.int .i64 r)) fun e w' => e = .returned (.bool q) ∧ ∃ Z', DG w' b Z' ⟨G.rules, seeH a r G.hosts, r⟩ ∧ (∀ i, Z' i → Z i ∨ w.heap.size ≤ i) ∧ Tu (Td b) w w') := Lib.hid (S1.out.mono fun e w' ⟨⟨p1, Z', p2, p3⟩, p4⟩ => ⟨by rw [p1, hq], Z', p2, fun i hi => by have := p3 i hi; rwa [SZ.out] at this, T1.out.tr p4 (fun _ _ z => z)⟩)
            clear hf hq OK S1 I1
            go_enter Try.func12, Try.ntmps12
            go_wp2_with fail
            generalize (w.setCell ⟨b, 2, none⟩ (.int .i64 r)) = w1 at *
            with_reducible refine SS.out.mono ?_
            rintro e w2 ⟨rfl, Z', hd, hz, ht⟩
            have D2 := Lib.hid hd
            have Z2 := Lib.hid hz
            have T2 := Lib.hid ht
            have C2 := Lib.hid (rFlags_c hd LR.out a)
            clear hd hz ht SS D1 T1 z2 z2f TR0
            have C3 : Hid (Calls Try.prog 15 #[.pointer (some ⟨b, 0, none⟩), .int .u32 a] w2 fun e w' => e = .returned (.int .i64 f) ∧ DG w' b Z' ⟨G.rules, seeH a r G.hosts, r⟩ ∧ Tu (Td b) w w') := Lib.hid (C2.out.mono fun e w' ⟨p1, p2⟩ => ⟨by rw [p1]; exact congrArg _ (congrArg _ HF.out), D2.out.below p2, T2.out.tr (tu_below p2) (fun _ _ z => z)⟩)
            go_wp2_with fail
            with_reducible refine C3.out.mono ?_
            rintro e w3 ⟨rfl, hd, ht⟩
            have DE := Lib.hid hd
            have TE := Lib.hid ht
            clear hd ht D2 T2 C2 C3
            have H1 := Lib.hid (fun W => HH.out 1 (by decide) W)
            obtain ⟨p1, hp1⟩ : ∃ z, hasF f 1 = z := ⟨_, rfl⟩
            rw [hp1] at H1
            have H2 := Lib.hid (fun W => HH.out 2 (by decide) W)
            obtain ⟨p2, hp2⟩ : ∃ z, hasF f 2 = z := ⟨_, rfl⟩
            rw [hp2] at H2
            have H4 := Lib.hid (fun W => HH.out 4 (by decide) W)
            obtain ⟨p4, hp4⟩ : ∃ z, hasF f 4 = z := ⟨_, rfl⟩
            rw [hp4] at H4
            have H32 := Lib.hid (fun W => HH.out 32 (by decide) W)
            obtain ⟨p32, hp32⟩ : ∃ z, hasF f 32 = z := ⟨_, rfl⟩
            rw [hp32] at H32
            have H64 := Lib.hid (fun W => HH.out 64 (by decide) W)
            obtain ⟨p64, hp64⟩ : ∃ z, hasF f 64 = z := ⟨_, rfl⟩
            rw [hp64] at H64
            have VD : Hid (vd f m q = if p1 = true ∨ m = 0 ∨ m = 7 then 1 else if m = 6 then (if p4 = true then 1 else 0) else if p2 = true then (if p64 = true then 2 else 1) else if p32 = true ∧ q = true then (if p64 = true then 3 else 1) else 0) := Lib.hid (by unfold vd; rw [hp1, hp2, hp4, hp32, hp64])
            clear hp1 hp2 hp4 hp32 hp64 HH FR LR HI HL HG
            cases p1 with
            | true =>
              have V0 := Lib.hid (VD.out.trans (by simp [] : _ = (1 : Int)))
              clear VD
              go_wp2_with (go_at_call 24; (first | (with_reducible refine (H1.out _).mono ?_; rintro e w' ⟨rfl, rfl⟩) | (with_reducible refine (H2.out _).mono ?_; rintro e w' ⟨rfl, rfl⟩) | (with_reducible refine (H4.out _).mono ?_; rintro e w' ⟨rfl, rfl⟩) | (with_reducible refine (H32.out _).mono ?_; rintro e w' ⟨rfl, rfl⟩) | (with_reducible refine (H64.out _).mono ?_; rintro e w' ⟨rfl, rfl⟩)))
              go_ret2
              exact ⟨⟨by rw [F1.out, F2.out, V0.out]; rfl, Z', by rw [F3.out]; exact DE.out, Z2.out⟩, TE.out⟩
            | false =>
              by_cases d0 : m = 0
              · subst d0
                have V0 := Lib.hid (VD.out.trans (by simp [] : _ = (1 : Int)))
                clear VD
                go_wp2_with (go_at_call 24; (first | (with_reducible refine (H1.out _).mono ?_; rintro e w' ⟨rfl, rfl⟩) | (with_reducible refine (H2.out _).mono ?_; rintro e w' ⟨rfl, rfl⟩) | (with_reducible refine (H4.out _).mono ?_; rintro e w' ⟨rfl, rfl⟩) | (with_reducible refine (H32.out _).mono ?_; rintro e w' ⟨rfl, rfl⟩) | (with_reducible refine (H64.out _).mono ?_; rintro e w' ⟨rfl, rfl⟩)))
                go_ret2
                exact ⟨⟨by rw [F1.out, F2.out, V0.out]; rfl, Z', by rw [F3.out]; exact DE.out, Z2.out⟩, TE.out⟩
              · have g0 : (m == 0) = false := by simpa using d0
                by_cases d1 : m = 7
                · subst d1
                  have V0 := Lib.hid (VD.out.trans (by simp [] : _ = (1 : Int)))
                  clear VD
                  go_wp2_with (go_at_call 24; (first | (with_reducible refine (H1.out _).mono ?_; rintro e w' ⟨rfl, rfl⟩) | (with_reducible refine (H2.out _).mono ?_; rintro e w' ⟨rfl, rfl⟩) | (with_reducible refine (H4.out _).mono ?_; rintro e w' ⟨rfl, rfl⟩) | (with_reducible refine (H32.out _).mono ?_; rintro e w' ⟨rfl, rfl⟩) | (with_reducible refine (H64.out _).mono ?_; rintro e w' ⟨rfl, rfl⟩)))
                  go_ret2
                  exact ⟨⟨by rw [F1.out, F2.out, V0.out]; rfl, Z', by rw [F3.out]; exact DE.out, Z2.out⟩, TE.out⟩
                · have g1 : (m == 7) = false := by simpa using d1
                  by_cases d2 : m = 6
                  · subst d2
                    cases p4 with
                    | true =>
                      have V0 := Lib.hid (VD.out.trans (by simp [] : _ = (1 : Int)))
                      clear VD
                      go_wp2_with (go_at_call 24; (first | (with_reducible refine (H1.out _).mono ?_; rintro e w' ⟨rfl, rfl⟩) | (with_reducible refine (H2.out _).mono ?_; rintro e w' ⟨rfl, rfl⟩) | (with_reducible refine (H4.out _).mono ?_; rintro e w' ⟨rfl, rfl⟩) | (with_reducible refine (H32.out _).mono ?_; rintro e w' ⟨rfl, rfl⟩) | (with_reducible refine (H64.out _).mono ?_; rintro e w' ⟨rfl, rfl⟩)))
                      go_ret2
                      exact ⟨⟨by rw [F1.out, F2.out, V0.out]; rfl, Z', by rw [F3.out]; exact DE.out, Z2.out⟩, TE.out⟩
                    | false =>
                      have V0 := Lib.hid (VD.out.trans (by simp [] : _ = (0 : Int)))
                      clear VD
                      go_wp2_with (go_at_call 24; (first | (with_reducible refine (H1.out _).mono ?_; rintro e w' ⟨rfl, rfl⟩) | (with_reducible refine (H2.out _).mono ?_; rintro e w' ⟨rfl, rfl⟩) | (with_reducible refine (H4.out _).mono ?_; rintro e w' ⟨rfl, rfl⟩) | (with_reducible refine (H32.out _).mono ?_; rintro e w' ⟨rfl, rfl⟩) | (with_reducible refine (H64.out _).mono ?_; rintro e w' ⟨rfl, rfl⟩)))
                      go_ret2
                      exact ⟨⟨by rw [F1.out, F2.out, V0.out]; rfl, Z', by rw [F3.out]; exact DE.out, Z2.out⟩, TE.out⟩
                  · have g2 : (m == 6) = false := by simpa using d2
                    cases p2 with
                    | true =>
                      cases p64 with
                      | true =>
                        have V0 := Lib.hid (VD.out.trans (by simp [d0, d1, d2] : _ = (2 : Int)))
                        clear VD
                        go_wp2_with (go_at_call 24; (first | (with_reducible refine (H1.out _).mono ?_; rintro e w' ⟨rfl, rfl⟩) | (with_reducible refine (H2.out _).mono ?_; rintro e w' ⟨rfl, rfl⟩) | (with_reducible refine (H4.out _).mono ?_; rintro e w' ⟨rfl, rfl⟩) | (with_reducible refine (H32.out _).mono ?_; rintro e w' ⟨rfl, rfl⟩) | (with_reducible refine (H64.out _).mono ?_; rintro e w' ⟨rfl, rfl⟩)))
                        go_ret2
                        exact ⟨⟨by rw [F1.out, F2.out, V0.out]; rfl, Z', by rw [F3.out]; exact DE.out, Z2.out⟩, TE.out⟩
                      | false =>
                        have V0 := Lib.hid (VD.out.trans (by simp [d0, d1, d2] : _ = (1 : Int)))
                        clear VD
                        go_wp2_with (go_at_call 24; (first | (with_reducible refine (H1.out _).mono ?_; rintro e w' ⟨rfl, rfl⟩) | (with_reducible refine (H2.out _).mono ?_; rintro e w' ⟨rfl, rfl⟩) | (with_reducible refine (H4.out _).mono ?_; rintro e w' ⟨rfl, rfl⟩) | (with_reducible refine (H32.out _).mono ?_; rintro e w' ⟨rfl, rfl⟩) | (with_reducible refine (H64.out _).mono ?_; rintro e w' ⟨rfl, rfl⟩)))
                        go_ret2
                        exact ⟨⟨by rw [F1.out, F2.out, V0.out]; rfl, Z', by rw [F3.out]; exact DE.out, Z2.out⟩, TE.out⟩
                    | false =>
                      cases p32 with
                      | true =>
                        cases q with
                        | true =>
                          cases p64 with
                          | true =>
                            have V0 := Lib.hid (VD.out.trans (by simp [d0, d1, d2] : _ = (3 : Int)))
                            clear VD
                            go_wp2_with (go_at_call 24; (first | (with_reducible refine (H1.out _).mono ?_; rintro e w' ⟨rfl, rfl⟩) | (with_reducible refine (H2.out _).mono ?_; rintro e w' ⟨rfl, rfl⟩) | (with_reducible refine (H4.out _).mono ?_; rintro e w' ⟨rfl, rfl⟩) | (with_reducible refine (H32.out _).mono ?_; rintro e w' ⟨rfl, rfl⟩) | (with_reducible refine (H64.out _).mono ?_; rintro e w' ⟨rfl, rfl⟩)))
                            go_ret2
                            exact ⟨⟨by rw [F1.out, F2.out, V0.out]; rfl, Z', by rw [F3.out]; exact DE.out, Z2.out⟩, TE.out⟩
                          | false =>
                            have V0 := Lib.hid (VD.out.trans (by simp [d0, d1, d2] : _ = (1 : Int)))
                            clear VD
                            go_wp2_with (go_at_call 24; (first | (with_reducible refine (H1.out _).mono ?_; rintro e w' ⟨rfl, rfl⟩) | (with_reducible refine (H2.out _).mono ?_; rintro e w' ⟨rfl, rfl⟩) | (with_reducible refine (H4.out _).mono ?_; rintro e w' ⟨rfl, rfl⟩) | (with_reducible refine (H32.out _).mono ?_; rintro e w' ⟨rfl, rfl⟩) | (with_reducible refine (H64.out _).mono ?_; rintro e w' ⟨rfl, rfl⟩)))
                            go_ret2
                            exact ⟨⟨by rw [F1.out, F2.out, V0.out]; rfl, Z', by rw [F3.out]; exact DE.out, Z2.out⟩, TE.out⟩
                        | false =>
                          have V0 := Lib.hid (VD.out.trans (by simp [d0, d1, d2] : _ = (0 : Int)))
                          clear VD
                          go_wp2_with (go_at_call 24; (first | (with_reducible refine (H1.out _).mono ?_; rintro e w' ⟨rfl, rfl⟩) | (with_reducible refine (H2.out _).mono ?_; rintro e w' ⟨rfl, rfl⟩) | (with_reducible refine (H4.out _).mono ?_; rintro e w' ⟨rfl, rfl⟩) | (with_reducible refine (H32.out _).mono ?_; rintro e w' ⟨rfl, rfl⟩) | (with_reducible refine (H64.out _).mono ?_; rintro e w' ⟨rfl, rfl⟩)))
                          go_ret2
                          exact ⟨⟨by rw [F1.out, F2.out, V0.out]; rfl, Z', by rw [F3.out]; exact DE.out, Z2.out⟩, TE.out⟩
                      | false =>
                        have V0 := Lib.hid (VD.out.trans (by simp [d0, d1, d2] : _ = (0 : Int)))
                        clear VD
                        go_wp2_with (go_at_call 24; (first | (with_reducible refine (H1.out _).mono ?_; rintro e w' ⟨rfl, rfl⟩) | (with_reducible refine (H2.out _).mono ?_; rintro e w' ⟨rfl, rfl⟩) | (with_reducible refine (H4.out _).mono ?_; rintro e w' ⟨rfl, rfl⟩) | (with_reducible refine (H32.out _).mono ?_; rintro e w' ⟨rfl, rfl⟩) | (with_reducible refine (H64.out _).mono ?_; rintro e w' ⟨rfl, rfl⟩)))
                        go_ret2
                        exact ⟨⟨by rw [F1.out, F2.out, V0.out]; rfl, Z', by rw [F3.out]; exact DE.out, Z2.out⟩, TE.out⟩
end Go.Proofs.Ytdngoopogajhiaa.Gu
