/-
  The program's guard: a host is seen; a packet is asked about.
  Conditions: none but that the guard lies in memory and is in order.
-/
import Derived.Test.YtdngoopogajhiaaGuL
namespace Go.Proofs.Ytdngoopogajhiaa.Gu
open Go.RowKit Go.ChangeShapes Go.WideShapes Go.ChangeAt Go.Joins Fl
set_option linter.unusedVariables false
set_option linter.unusedSimpArgs false

theorem PM.front {w : World} {b : Nat} {Z : Nat → Prop} {R : List Ru} {x : Ho} {T : List Ho} (h : PM w b Z R (x :: T)) (i o : Nat) (ho : o = 1 + i) {v : Value} (hi : (hvs x)[i]? = some v) : w.cell? ⟨b, o, none⟩ = some v ∧ w.frozen? ⟨b, o, none⟩ = false := by
  subst ho
  obtain ⟨V, rv, _, _, h3, _, _, _, h7, _⟩ := h
  have q := h3.2 _ _ (h7 0 x rfl i v hi)
  rwa [Nat.zero_mul, Nat.zero_add] at q
theorem PM.set {w : World} {b : Nat} {Z : Nat → Prop} {R : List Ru} {x : Ho} {T : List Ho} (h : PM w b Z R (x :: T)) (i o : Nat) (hi : i < 4) (ho : o = 1 + i) (v : Int) (x' : Ho) (he : hvs x' = (hvs x).set i (.int .i64 v)) : PM (w.setCell ⟨b, o, none⟩ (.int .i64 v)) b Z R (x' :: T) := by
  subst ho
  obtain ⟨V, rv, h1, h2, h3, h4, h5, h6, h7, h8, h9, h10, h11⟩ := h
  refine ⟨V.set (1 + i) (.int .i64 v), rv, by rw [List.length_set]; exact h1, fun u hu => (List.mem_or_eq_of_mem_set hu).elim (h2 u) (fun e => by rw [e]; rfl), blk_set h3 _ _, by rw [List.getElem?_set_ne (by omega)]; exact h4, by rw [List.getElem?_set_ne (by omega)]; exact h5, h6, fun j s hj k u hk => ?_, ss_keep h8 (fun g hg hl => set_other (h10 g hg).2) (by simp), h9, h10, fun j hj => by have := h11 j hj; simpa using this⟩
  have k4 : k < 4 := by have := (List.getElem?_eq_some_iff.1 hk).1; simpa [hvs] using this
  cases j with
  | zero =>
    simp at hj
    subst hj
    rw [Nat.zero_mul, Nat.zero_add]
    by_cases c : k = i
    · subst c
      rw [List.getElem?_set_self (by omega)]
      rw [he, List.getElem?_set_self (by simp [hvs]; omega)] at hk
      exact hk
    · rw [List.getElem?_set_ne (by omega)]
      rw [he, List.getElem?_set_ne (Ne.symm c)] at hk
      have q := h7 0 x rfl k u hk
      rwa [Nat.zero_mul, Nat.zero_add] at q
  | succ j =>
    rw [List.getElem?_set_ne (by omega)]
    exact h7 (j + 1) s hj k u hk
set_option maxRecDepth 100000 in
set_option maxHeartbeats 16000000 in
theorem see_c {w : World} {b k : Nat} {Z : Nat → Prop} {R : List Ru} {H : List Ho} {l : Int} (h : PM w b Z R H) (hn : (H.map Ho.addr).Nodup) (hk : k ≤ 10000) (ho : ∀ x ∈ H, okH k l x) (a raw : Int) (h0 : 0 ≤ raw) (hl : l ≤ raw) (h1 : raw ≤ 288230376151711744) : Calls Try.prog 20 #[.pointer (some ⟨b, 0, none⟩), .int .u32 a, .int .i64 raw] w fun e w' => e = .returned (.bool (fast a raw H)) ∧ PM w' b Z R (seeH a raw H) ∧ Tu (Td b) w w' := by
  have BT := Lib.hid (bringToFront_c h hn a raw)
  have HO := Lib.hid ho
  clear h hn ho
  go_enter Try.func20, Try.ntmps20
  go_wp2_with fail
  refine BT.out.mono ?_
  rintro e w1 ⟨rfl, ⟨x, T, hx, hbf, hp⟩, ht⟩
  have T1 := Lib.hid ht
  have P1 := Lib.hid hp
  have HB := Lib.hid hbf
  clear ht hp BT
  have bx : (0 ≤ x.last ∧ x.last ≤ raw) ∧ (0 ≤ x.count ∧ x.count ≤ 10000) ∧ 0 ≤ x.score ∧ x.score ≤ 33554432 := by
    rcases hx with hx | rfl
    · have := HO.out x hx
      unfold okH at this
      omega
    · simp only
      omega
  clear HO hx hbf
  obtain ⟨xa, xl, xc, xs⟩ := x
  simp only at bx
  obtain ⟨⟨b1, b2⟩, ⟨b3, b4⟩, b5, b6⟩ := bx
  have w1' : IntKind.i64.wrap (raw - xl) = raw - xl := wrap_in (by omega) (by omega)
  have w2' : IntKind.i64.wrap (xs - (raw - xl)) = xs - (raw - xl) := wrap_in (by omega) (by omega)
  obtain ⟨mx, hmx⟩ : ∃ mx, max (xs - (raw - xl)) 0 = mx := ⟨_, rfl⟩
  have hmx' : (if xs - (raw - xl) < 0 then (0 : Int) else xs - (raw - xl)) = mx := by split <;> omega
  have hmx2 : (if 0 < xs - (raw - xl) then xs - (raw - xl) else (0 : Int)) = mx := by split <;> omega
  have m1 : 0 ≤ mx ∧ mx ≤ 33554432 := by omega
  have w3' : IntKind.i64.wrap (mx + 8388608) = mx + 8388608 := wrap_in (by omega) (by omega)
  have w4' : IntKind.i64.wrap (xc + 1) = xc + 1 := wrap_in (by omega) (by omega)
  obtain ⟨e1, e2, e3, e4⟩ := HB.out
  simp only at e2 e3 e4
  rw [hmx] at e3 e4
  subst e2
  have E3 := Lib.hid e3
  have E4 := Lib.hid e4
  clear HB e1 e3 e4
  obtain ⟨s2, t2⟩ := P1.out.front 1 2 rfl rfl
  obtain ⟨s4, t4⟩ := P1.out.front 3 4 rfl rfl
  have Q1 := P1.out.below (brefl w1).drew
  obtain ⟨d2, u2⟩ := Q1.front 1 2 rfl rfl
  obtain ⟨d4, u4⟩ := Q1.front 3 4 rfl rfl
  have P2' : PM (w1.setCell ⟨b, 4, none⟩ (.int .i64 (mx + 8388608))) b Z R (⟨xa, xl, xc, mx + 8388608⟩ :: T) := P1.out.set 3 4 (by decide) rfl _ _ rfl
  have P2 : Hid (PM (w1.setCell ⟨b, 4, none⟩ (.int .i64 (mx + 8388608))).drew b Z R (⟨xa, xl, xc, mx + 8388608⟩ :: T)) := Lib.hid (P2'.below (brefl _).drew)
  have T2 := Lib.hid ((T1.out.set 4 (.int .i64 (mx + 8388608))).tr (tu_below (X := Td b) (brefl _).drew) (fun _ _ q => q))
  clear Q1 P1 T1 P2'
  go_upto_region 2 with fail
  go_region
  go_upto_region 3 with fail
  generalize (w1.setCell ⟨b, 4, none⟩ (.int .i64 (mx + 8388608))).drew = w2 at *
  clear s2 t2 s4 t4 d2 u2 d4 u4
  obtain ⟨s2, t2⟩ := P2.out.front 1 2 rfl rfl
  have P3 : Hid (PM (w2.setCell ⟨b, 2, none⟩ (.int .i64 raw)) b Z R (⟨xa, raw, xc, mx + 8388608⟩ :: T)) := Lib.hid (P2.out.set 1 2 (by decide) rfl _ _ rfl)
  have T3 := Lib.hid (T2.out.set 2 (.int .i64 raw))
  go_upto_region 4 with fail
  generalize w2.setCell ⟨b, 2, none⟩ (.int .i64 raw) = w3 at *
  clear s2 t2 P2 T2
  obtain ⟨s3, t3⟩ := P3.out.front 2 3 rfl rfl
  have P4 : Hid (PM (w3.setCell ⟨b, 3, none⟩ (.int .i64 (xc + 1))) b Z R (⟨xa, raw, xc + 1, mx + 8388608⟩ :: T)) := Lib.hid (P3.out.set 2 3 (by decide) rfl _ _ rfl)
  have T4 := Lib.hid (T3.out.set 3 (.int .i64 (xc + 1)))
  go_upto_region 5 with fail
  generalize w3.setCell ⟨b, 3, none⟩ (.int .i64 (xc + 1)) = w4 at *
  clear s3 t3 P3 T3
  obtain ⟨s4, t4⟩ := P4.out.front 3 4 rfl rfl
  obtain ⟨mn, hmn⟩ : ∃ mn, min (mx + 8388608) 33554432 = mn := ⟨_, rfl⟩
  have hmn' : (if 33554432 < mx + 8388608 then (33554432 : Int) else mx + 8388608) = mn := by split <;> omega
  have hmn2 : (if mx + 8388608 < 33554432 then mx + 8388608 else (33554432 : Int)) = mn := by split <;> omega
  rw [hmn] at E3
  have P5 : Hid (PM (w4.setCell ⟨b, 4, none⟩ (.int .i64 mn)) b Z R (⟨xa, raw, xc + 1, mn⟩ :: T)) := Lib.hid (P4.out.set 3 4 (by decide) rfl _ _ rfl)
  have T5 := Lib.hid (T4.out.set 4 (.int .i64 mn))
  clear hmn hmx
  go_wp2_with fail
  go_ret
  exact ⟨by rw [E4.out]; rfl, by rw [E3.out]; exact P5.out, T5.out⟩
set_option maxRecDepth 100000 in
set_option maxHeartbeats 4000000 in
theorem Ask_no {w : World} {b : Nat} {Z : Nat → Prop} {G : Gd} (h : PM w b Z G.rules G.hosts) (h0 : G.hosts = [] → G.last = 0) (h1 : ∀ x T, G.hosts = x :: T → G.last = x.last) (hl : 0 ≤ G.last) (a m r : Int) (hno : ¬ askO G m r) : Calls Try.prog 11 #[.pointer (some ⟨b, 0, none⟩), .int .u32 a, .int .i64 m, .int .i64 r] w fun e w' => e = .returned (.tuple #[.int .i64 0, .int .i64 2]) ∧ Below w.heap.size w w' := by
  have LR := Lib.hid (lastRaw_c h h0 h1)
  unfold askO at hno
  generalize G.last = l at *
  clear h h0 h1
  by_cases c0 : m < 0
  · have e0 := decide_eq_true c0
    clear LR hno
    go_enter Try.func11, Try.ntmps11
    go_wp2_with fail
    go_ret2
    exact ⟨rfl, brefl w⟩
  · have e0 := decide_eq_false c0
    by_cases c1 : 7 < m
    · have e1 := decide_eq_true c1
      clear LR hno
      go_enter Try.func11, Try.ntmps11
      go_wp2_with fail
      go_ret2
      exact ⟨rfl, brefl w⟩
    · have e1 := decide_eq_false c1
      by_cases c2 : r < l
      · have e2 := decide_eq_true c2
        clear hno
        go_enter Try.func11, Try.ntmps11
        go_wp2_with fail
        refine LR.out.mono ?_
        rintro e w1 ⟨rfl, rfl⟩
        clear LR
        go_wp2_with fail
        go_ret2
        exact ⟨rfl, brefl _⟩
      · have e2 := decide_eq_false c2
        have e3 : decide (288230376151711744 < r) = true := decide_eq_true (by omega)
        clear hno
        go_enter Try.func11, Try.ntmps11
        go_wp2_with fail
        refine LR.out.mono ?_
        rintro e w1 ⟨rfl, rfl⟩
        clear LR
        go_wp2_with fail
        go_ret2
        exact ⟨rfl, brefl _⟩
set_option maxRecDepth 100000 in
set_option maxHeartbeats 8000000 in
theorem Ask_yes {w : World} {b k : Nat} {Z : Nat → Prop} {G : Gd} (h : PM w b Z G.rules G.hosts) (h0 : G.hosts = [] → G.last = 0) (h1 : ∀ x T, G.hosts = x :: T → G.last = x.last) (hk : k ≤ 10000) (hI : In k G) (a m r : Int) (hok : askO G m r) : Calls Try.prog 11 #[.pointer (some ⟨b, 0, none⟩), .int .u32 a, .int .i64 m, .int .i64 r] w fun e w' => e = .returned (.tuple #[.int .i64 (vd (flg a G.rules) m (fast a r G.hosts)), .int .i64 0]) ∧ PM w' b Z G.rules (seeH a r G.hosts) ∧ Tu (Td b) w w' := by
  have LR := Lib.hid (lastRaw_c h h0 h1)
  obtain ⟨g1, g2, g3, g4, g5, g6, g7⟩ := hI
  obtain ⟨⟨o1, o2⟩, ⟨o3, o4⟩, o5⟩ := hok
  have SE := Lib.hid (see_c h g5 hk g4 a r o3 o5 o4)
  have FI := flg_in (a := a) g2.1
  have FO := Lib.hid (fun W v (q : Gn.Ss rvs 3 W v G.rules) => flagsOf_c q g1 a)
  have VC := Lib.hid (fun W => verdict_c (flg a G.rules) m (fast a r G.hosts) W FI ⟨o1, o2⟩)
  have e0 : decide (m < 0) = false := decide_eq_false (by omega)
  have e1 : decide (7 < m) = false := decide_eq_false (by omega)
  have e2 : decide (r < G.last) = false := decide_eq_false (by omega)
  have e3 : decide (288230376151711744 < r) = false := decide_eq_false (by omega)
  generalize G.last = l at *
  clear h h0 h1 g1 g2 g3 g4 g5 g6 g7 FI
  generalize vd (flg a G.rules) m (fast a r G.hosts) = z at *
  go_enter Try.func11, Try.ntmps11
  go_wp2_with fail
  refine LR.out.mono ?_
  rintro e w1 ⟨rfl, rfl⟩
  clear LR
  go_wp2_with fail
  refine SE.out.mono ?_
  rintro e w2 ⟨rfl, hp, ht⟩
  have P2 := Lib.hid hp
  have T2 := Lib.hid ht
  clear hp ht SE
  obtain ⟨ra, rc, k1, k2⟩ := P2.out.rules
  have FO2 := Lib.hid (FO.out _ _ k2)
  clear FO k2
  generalize flg a G.rules = fl at *
  generalize fast a r G.hosts = fa at *
  go_wp2_with fail
  refine FO2.out.mono ?_
  rintro e w3 ⟨rfl, hb⟩
  have P3 := Lib.hid (P2.out.below hb)
  have T3 := Lib.hid (T2.out.tr (tu_below (X := Td b) hb) (fun _ _ q => q))
  clear hb FO2 P2 T2 k1
  go_wp2_with fail
  refine (VC.out _).mono ?_
  rintro e w4 ⟨rfl, rfl⟩
  clear VC
  go_wp2_with fail
  go_ret2
  exact ⟨rfl, P3.out, T3.out⟩
theorem Ask_nil (w : World) (a m r : Int) : Calls Try.prog 11 #[.pointer none, .int .u32 a, .int .i64 m, .int .i64 r] w fun e w' => e = .returned (.tuple #[.int .i64 0, .int .i64 1]) ∧ Below w.heap.size w w' := by
  go_enter Try.func11, Try.ntmps11
  go_wp2_with fail
  go_ret2
  exact ⟨rfl, brefl w⟩
end Go.Proofs.Ytdngoopogajhiaa.Gu
