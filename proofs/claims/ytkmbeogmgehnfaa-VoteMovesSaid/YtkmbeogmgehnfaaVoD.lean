/-
  The document's intersection with so many allowed.
  Conditions: none but that the candidates lie in memory.
-/
import Derived.Test.YtkmbeogmgehnfaaVoC
namespace Go.Proofs.Ytkmbeogmgehnfaa.Vo
open Go.RowKit Go.ChangeShapes Go.WideShapes Go.ChangeAt Go.Joins Fl Hu
set_option linter.unusedVariables false
set_option linter.unusedSimpArgs false

theorem info_span : (Try.prog.info? 27).map (·.size) = some 2 := by kernel_rfl
def LowP (L : List Cd) (a k : Nat) (lo : Int) : Prop := (lo = 274877906944 ∨ Enough (sps L) a lo) ∧ ∀ c ∈ L.take k, Enough (sps L) a (c.off - c.dist) → lo ≤ c.off - c.dist
def HighP (L : List Cd) (a k : Nat) (hi : Int) : Prop := (hi = -274877906944 ∨ Enough (sps L) a hi) ∧ ∀ c ∈ L.take k, Enough (sps L) a (c.off + c.dist) → c.off + c.dist ≤ hi
theorem LowP.yes {L : List Cd} {a k : Nat} {lo : Int} (h : LowP L a k lo) {x : Cd} (hx : L[k]? = some x) (q : Enough (sps L) a (x.off - x.dist)) : LowP L a (k + 1) (min lo (x.off - x.dist)) := by
  obtain ⟨h1, h2⟩ := h
  refine ⟨?_, all_more hx (fun c hc e => by have := h2 c hc e; omega) (fun _ => by omega)⟩
  rcases Int.le_total lo (x.off - x.dist) with c | c
  · rw [Int.min_eq_left c]; exact h1
  · rw [Int.min_eq_right c]; exact .inr q
theorem LowP.no {L : List Cd} {a k : Nat} {lo : Int} (h : LowP L a k lo) {x : Cd} (hx : L[k]? = some x) (q : ¬ Enough (sps L) a (x.off - x.dist)) : LowP L a (k + 1) lo :=
  ⟨h.1, all_more hx h.2 (fun e => absurd e q)⟩
theorem HighP.yes {L : List Cd} {a k : Nat} {hi : Int} (h : HighP L a k hi) {x : Cd} (hx : L[k]? = some x) (q : Enough (sps L) a (x.off + x.dist)) : HighP L a (k + 1) (max hi (x.off + x.dist)) := by
  obtain ⟨h1, h2⟩ := h
  refine ⟨?_, all_more hx (fun c hc e => by have := h2 c hc e; omega) (fun _ => by omega)⟩
  rcases Int.le_total hi (x.off + x.dist) with c | c
  · rw [Int.max_eq_right c]; exact .inr q
  · rw [Int.max_eq_left c]; exact h1
theorem HighP.no {L : List Cd} {a k : Nat} {hi : Int} (h : HighP L a k hi) {x : Cd} (hx : L[k]? = some x) (q : ¬ Enough (sps L) a (x.off + x.dist)) : HighP L a (k + 1) hi :=
  ⟨h.1, all_more hx h.2 (fun e => absurd e q)⟩
theorem try_ends {L : List Cd} (ok : okL L) {a : Nat} (ha : a < L.length) {lo hi : Int} (h : LowP L a L.length lo) (k : HighP L a L.length hi) :
    (lo ≤ hi ∧ Hull (sps L) a lo hi) ∨ (hi < lo ∧ ∀ t, ¬ Enough (sps L) a t) := by
  have ha' : a < (sps L).length := by rw [sps_len]; exact ha
  obtain ⟨h1, h2⟩ := h
  obtain ⟨k1, k2⟩ := k
  rw [List.take_length] at h2 k2
  have far : ∀ c ∈ L, -137438953472 ≤ c.off - c.dist ∧ c.off + c.dist ≤ 137438953472 ∧ c.off - c.dist ≤ c.off + c.dist := fun c hc => by
    have := sp_in (ok.1 c hc)
    omega
  by_cases e : ∃ t, Enough (sps L) a t
  · obtain ⟨t, ht⟩ := e
    obtain ⟨s, hs, b1, b2⟩ := low_of ha' ht
    obtain ⟨s', hs', b1', b2'⟩ := high_of ha' ht
    obtain ⟨c, hc, rfl⟩ := List.mem_map.1 hs
    obtain ⟨c', hc', rfl⟩ := List.mem_map.1 hs'
    have q1 := h2 c hc b2
    have q2 := k2 c' hc' b2'
    have f1 := far c hc
    have f2 := far c' hc'
    have l1 : Enough (sps L) a lo := h1.resolve_left (by omega)
    have l2 : Enough (sps L) a hi := k1.resolve_left (by omega)
    have H : Hull (sps L) a lo hi := hull_ends ha' l1 l2 (fun s hs q => by obtain ⟨c, hc, rfl⟩ := List.mem_map.1 hs; exact h2 c hc q) (fun s hs q => by obtain ⟨c, hc, rfl⟩ := List.mem_map.1 hs; exact k2 c hc q)
    exact .inl ⟨H.le, H⟩
  · have n : ∀ t, ¬ Enough (sps L) a t := fun t q => e ⟨t, q⟩
    have e1 := h1.resolve_right (n lo)
    have e2 := k1.resolve_right (n hi)
    exact .inr ⟨by omega, n⟩
theorem outs_more {L : List Cd} {k : Nat} {x : Cd} (h : L[k]? = some x) (m M : Int) : outs (L.take (k + 1)) m M = outs (L.take k) m M + if isOut m M x = true then 1 else 0 := by
  unfold outs
  rw [take_more h, List.countP_append, List.countP_cons, List.countP_nil, Nat.zero_add]
/-- what is answered. -/
def TryP (L : List Cd) (a : Nat) (m M : Int) (b : Bool) : Prop := (b = true ∧ Good L a m M) ∨ (b = false ∧ ∀ m' M', ¬ Good L a m' M')
theorem tryP_of {L : List Cd} (ok : okL L) {a : Nat} (ha : a < L.length) {lo hi : Int} (h : LowP L a L.length lo) (k : HighP L a L.length hi) : TryP L a lo hi (decide (lo ≤ hi) && decide (outs L lo hi ≤ a)) := by
  rcases try_ends ok ha h k with ⟨q, H⟩ | ⟨q, n⟩
  · by_cases o : outs L lo hi ≤ a
    · exact .inl ⟨by rw [decide_eq_true q, decide_eq_true o]; rfl, H, o⟩
    · refine .inr ⟨by rw [decide_eq_false o, Bool.and_false], fun m' M' g => o ?_⟩
      obtain ⟨rfl, rfl⟩ := H.one g.1
      exact g.2
  · exact .inr ⟨by rw [decide_eq_false (show ¬ lo ≤ hi by omega)]; rfl, fun m' M' g => n _ g.1.1⟩
set_option maxRecDepth 100000 in
set_option maxHeartbeats 8000000 in
theorem rTry_c {w : World} {v : Value} {L : List Cd} (h : Cs w v L) (ok : okL L) (a : Nat) (ha : a < L.length) :
    Calls Try.prog 21 #[v, .int .i64 (a : Nat)] w fun e w' => (∃ m M b, e = .returned (.tuple #[.agg #[.int .i64 m, .int .i64 M], .bool b]) ∧ TryP L a m M b) ∧ Below w.heap.size w w' := by
  have B0 := Lib.hid (balloc (brefl w) (.cells #[.int .i64 0, .int .i64 0] 27))
  have N0 := Lib.hid (new2 w 0 0 27)
  have n32 := ok.2
  have CN := Lib.hid (fun w' (q : Below w.heap.size w w') t => rHolds_c (h.below q) n32 ok.1 t)
  have OK := Lib.hid ok
  have GA := Lib.hid ha
  have HS := Lib.hid h
  have RZ : Hid (∀ W (x y : Int) (e : Bool), Blk W w.heap.size [.int .i64 x, .int .i64 y] → ∀ tmps : Array Value, tmps.getD 4 undef = .pointer (some ⟨w.heap.size, 0, none⟩) → tmps.getD 5 undef = .bool e → (results Try.f21 tmps).run Try.prog W = .ok (.tuple #[.agg #[.int .i64 x, .int .i64 y], .bool e]) W) := Lib.hid fun W x y e hb tmps h1 h2 =>
    results_cell_slot rfl tmps W w.heap.size [.int .i64 x, .int .i64 y] _ _ h1 h2 hb.range Try.underlying27 rfl (by exact info_span)
  obtain ⟨va, cap, rfl, c1, c2, _⟩ := h
  obtain ⟨m, hm⟩ : ∃ m, L.length = m := ⟨_, rfl⟩
  have HM := Lib.hid hm
  have EN : Hid (∀ t, Enough (sps L) a t ↔ (m : Int) - (a : Int) ≤ (cnt (sps L) t : Nat)) := Lib.hid fun t => by unfold Enough; rw [sps_len, hm]; omega
  have CL : Hid (∀ t, cnt (sps L) t ≤ m) := Lib.hid fun t => by have := cnt_le (sps L) t; rwa [sps_len, hm] at this
  have TP : Hid (∀ lo hi, LowP L a m lo → HighP L a m hi → TryP L a lo hi (decide (lo ≤ hi) && decide (outs L lo hi ≤ a))) := Lib.hid fun lo hi p q => tryP_of ok ha (hm ▸ p) (hm ▸ q)
  rw [hm] at HS CN c1 n32 ha ⊢
  have m0 : (0 : Int) ≤ (m : Int) := by omega
  have m1 : (m : Int) ≤ 32 := by omega
  have m2 : (m : Int) ≤ (cap : Int) := by omega
  have m3 : (cap : Int) ≤ 9223372036854775807 := by omega
  have wg : IntKind.i64.wrap ((m : Int) - (a : Int)) = (m : Int) - (a : Int) := wrap_in (by omega) (by omega)
  clear ok hm
  go_enter Try.func21, Try.ntmps21
  go_wp2_with fail
  go_loopw [6, 7, 8] (fun lv hv iv wr => ∃ (k : Nat) (lo hi : Int), k ≤ m ∧ iv = .int .i64 (k : Nat) ∧ lv = .int .i64 lo ∧ hv = .int .i64 hi ∧ LowP L a k lo ∧ HighP L a k hi ∧ Blk wr w.heap.size [.int .i64 0, .int .i64 0] ∧ Below w.heap.size w wr) (fun _ _ iv _ => m - (intOf iv).toNat)
  case atStart => exact ⟨0, _, _, by omega, rfl, rfl, rfl, ⟨.inl rfl, by simp⟩, ⟨.inl rfl, by simp⟩, N0.out, B0.out⟩
  case round =>
    obtain ⟨k, lo, hi, hk, rfl, rfl, rfl, hlo, hhi, hn0, hb⟩ := hrel
    rename World => wr
    have HL := Lib.hid hlo
    have HH := Lib.hid hhi
    have N1 := Lib.hid hn0
    have HB := Lib.hid hb
    clear hlo hhi hn0 hb N0 B0
    by_cases c : k < m
    · have e1 : decide ((k : Int) < (m : Int)) = true := decide_eq_true (by omega)
      have e2 : decide (k < m) = true := decide_eq_true c
      have k1 : (k : Int) < (m : Int) := by omega
      have wk : IntKind.i64.wrap ((k : Int) + 1) = (k : Int) + 1 := wrap_in (by omega) (by omega)
      obtain ⟨x, hx⟩ : ∃ x, L[k]? = some x := ⟨_, List.getElem?_eq_getElem (by rw [HM.out]; exact c)⟩
      have HX := Lib.hid hx
      have SP := Lib.hid (fun w => rSpan_c x w (OK.out.1 x (List.mem_of_getElem? hx)))
      obtain ⟨b, off, rfl, y0, y1, y2, y3⟩ := (HS.out.below HB.out).at hx
      have LY := Lib.hid (HL.out.yes hx)
      have LN := Lib.hid (HL.out.no hx)
      have HY := Lib.hid (HH.out.yes hx)
      have HN := Lib.hid (HH.out.no hx)
      have C0 := Lib.hid (fun W q => CN.out W q (x.off - x.dist))
      have C1 := Lib.hid (fun W q => CN.out W q (x.off + x.dist))
      rw [EN.out] at LY LN HY HN
      have l0 := CL.out (x.off - x.dist)
      have l1 := CL.out (x.off + x.dist)
      generalize cnt (sps L) (x.off - x.dist) = n0 at *
      generalize cnt (sps L) (x.off + x.dist) = n1 at *
      clear hx
      obtain ⟨xo, xd, xj, xs⟩ := x
      obtain ⟨xl, hxl⟩ : ∃ z, xo - xd = z := ⟨_, rfl⟩
      obtain ⟨xh, hxh⟩ : ∃ z, xo + xd = z := ⟨_, rfl⟩
      simp only [hxl, hxh] at y0 y1 y2 y3 SP LY HY C0 C1
      clear hxl hxh
      replace SP : Hid (∀ w, Calls Try.prog 22 #[.agg #[.int .i64 xo, .int .i64 xd, .int .i64 xj, .int .i64 xs]] w fun e w' => e = .returned (.agg #[.int .i64 xl, .int .i64 xh]) ∧ Below w.heap.size w w') := SP
      go_wp2_with fail
      refine (SP.out _).mono ?_
      rintro e w2 ⟨rfl, hb⟩
      have hb2 := balloc hb (.cells #[.int .i64 xl, .int .i64 xh] 27)
      have B2 := Lib.hid (bstep HB.out hb2)
      have N2 := Lib.hid (N1.out.below hb2)
      have S2 := Lib.hid (new2 w2 xl xh 27)
      clear hb hb2 y0 y1 y2 y3 SP HB N1
      go_upto_region 7 with fail
      generalize w2.alloc (.cells #[.int .i64 xl, .int .i64 xh] 27) = w3 at *
      obtain ⟨z0, z1⟩ := blk2 S2.out (brefl w3)
      go_wp2_with fail
      refine (C0.out _ B2.out).mono ?_
      rintro e w4 ⟨rfl, hb⟩
      have B4 := Lib.hid (bstep B2.out hb)
      have N4 := Lib.hid (N2.out.below hb)
      have S4 := Lib.hid (S2.out.below hb)
      clear hb z0 z1 B2 N2 S2 C0
      obtain ⟨z0, z1⟩ := blk2 S4.out (brefl w4)
      by_cases q0 : (m : Int) - (a : Int) ≤ (n0 : Int)
      · have d0 := decide_eq_true q0
        rcases Int.lt_or_le xl lo with cm | cm
        · have dm := decide_eq_true cm
          have LO2 := Lib.hid (LY.out q0)
          rw [Int.min_eq_right (by omega)] at LO2
          go_wp2_with fail
          refine (C1.out _ B4.out).mono ?_
          rintro e w5 ⟨rfl, hb⟩
          have B5 := Lib.hid (bstep B4.out hb)
          have N5 := Lib.hid (N4.out.below hb)
          have S5 := Lib.hid (S4.out.below hb)
          clear hb z0 z1 B4 N4 S4 C1
          obtain ⟨z0, z1⟩ := blk2 S5.out (brefl w5)
          by_cases q1 : (m : Int) - (a : Int) ≤ (n1 : Int)
          · have d1 := decide_eq_true q1
            rcases Int.lt_or_le hi xh with cx | cx
            · have dx := decide_eq_true cx
              have HI2 := Lib.hid (HY.out q1)
              rw [Int.max_eq_right (by omega)] at HI2
              go_wp2_with fail
              exact ⟨⟨k + 1, _, _, by omega, by go_num, rfl, rfl, LO2.out, HI2.out, N5.out, B5.out⟩, by simp [intOf]; omega⟩
            · have dx : decide (hi < xh) = false := decide_eq_false (by omega)
              have HI2 := Lib.hid (HY.out q1)
              rw [Int.max_eq_left cx] at HI2
              go_wp2_with fail
              exact ⟨⟨k + 1, _, _, by omega, by go_num, rfl, rfl, LO2.out, HI2.out, N5.out, B5.out⟩, by simp [intOf]; omega⟩
          · have d1 := decide_eq_false q1
            have HI2 := Lib.hid (HN.out (Int.not_le.1 q1))
            go_wp2_with fail
            exact ⟨⟨k + 1, _, _, by omega, by go_num, rfl, rfl, LO2.out, HI2.out, N5.out, B5.out⟩, by simp [intOf]; omega⟩
        · have dm : decide (xl < lo) = false := decide_eq_false (by omega)
          have LO2 := Lib.hid (LY.out q0)
          rw [Int.min_eq_left cm] at LO2
          go_wp2_with fail
          refine (C1.out _ B4.out).mono ?_
          rintro e w5 ⟨rfl, hb⟩
          have B5 := Lib.hid (bstep B4.out hb)
          have N5 := Lib.hid (N4.out.below hb)
          have S5 := Lib.hid (S4.out.below hb)
          clear hb z0 z1 B4 N4 S4 C1
          obtain ⟨z0, z1⟩ := blk2 S5.out (brefl w5)
          by_cases q1 : (m : Int) - (a : Int) ≤ (n1 : Int)
          · have d1 := decide_eq_true q1
            rcases Int.lt_or_le hi xh with cx | cx
            · have dx := decide_eq_true cx
              have HI2 := Lib.hid (HY.out q1)
              rw [Int.max_eq_right (by omega)] at HI2
              go_wp2_with fail
              exact ⟨⟨k + 1, _, _, by omega, by go_num, rfl, rfl, LO2.out, HI2.out, N5.out, B5.out⟩, by simp [intOf]; omega⟩
            · have dx : decide (hi < xh) = false := decide_eq_false (by omega)
              have HI2 := Lib.hid (HY.out q1)
              rw [Int.max_eq_left cx] at HI2
              go_wp2_with fail
              exact ⟨⟨k + 1, _, _, by omega, by go_num, rfl, rfl, LO2.out, HI2.out, N5.out, B5.out⟩, by simp [intOf]; omega⟩
          · have d1 := decide_eq_false q1
            have HI2 := Lib.hid (HN.out (Int.not_le.1 q1))
            go_wp2_with fail
            exact ⟨⟨k + 1, _, _, by omega, by go_num, rfl, rfl, LO2.out, HI2.out, N5.out, B5.out⟩, by simp [intOf]; omega⟩
      · have d0 := decide_eq_false q0
        have LO2 := Lib.hid (LN.out (Int.not_le.1 q0))
        go_wp2_with fail
        refine (C1.out _ B4.out).mono ?_
        rintro e w5 ⟨rfl, hb⟩
        have B5 := Lib.hid (bstep B4.out hb)
        have N5 := Lib.hid (N4.out.below hb)
        have S5 := Lib.hid (S4.out.below hb)
        clear hb z0 z1 B4 N4 S4 C1
        obtain ⟨z0, z1⟩ := blk2 S5.out (brefl w5)
        by_cases q1 : (m : Int) - (a : Int) ≤ (n1 : Int)
        · have d1 := decide_eq_true q1
          rcases Int.lt_or_le hi xh with cx | cx
          · have dx := decide_eq_true cx
            have HI2 := Lib.hid (HY.out q1)
            rw [Int.max_eq_right (by omega)] at HI2
            go_wp2_with fail
            exact ⟨⟨k + 1, _, _, by omega, by go_num, rfl, rfl, LO2.out, HI2.out, N5.out, B5.out⟩, by simp [intOf]; omega⟩
          · have dx : decide (hi < xh) = false := decide_eq_false (by omega)
            have HI2 := Lib.hid (HY.out q1)
            rw [Int.max_eq_left cx] at HI2
            go_wp2_with fail
            exact ⟨⟨k + 1, _, _, by omega, by go_num, rfl, rfl, LO2.out, HI2.out, N5.out, B5.out⟩, by simp [intOf]; omega⟩
        · have d1 := decide_eq_false q1
          have HI2 := Lib.hid (HN.out (Int.not_le.1 q1))
          go_wp2_with fail
          exact ⟨⟨k + 1, _, _, by omega, by go_num, rfl, rfl, LO2.out, HI2.out, N5.out, B5.out⟩, by simp [intOf]; omega⟩
    · have e1 : decide ((k : Int) < (m : Int)) = false := decide_eq_false (by omega)
      have e2 : decide (k < m) = false := decide_eq_false c
      obtain rfl : k = m := by omega
      have TE := Lib.hid (TP.out lo hi HL.out HH.out)
      have OE : Hid (outs (L.take k) lo hi = outs L lo hi) := Lib.hid (by rw [List.take_of_length_le (by rw [HM.out]; exact Nat.le_refl _)])
      go_wp2_with fail
      go_loopw [10, 11] (fun nv iv w2 => ∃ j : Nat, j ≤ k ∧ iv = .int .i64 (j : Nat) ∧ nv = .int .i64 (outs (L.take j) lo hi : Nat) ∧ Blk w2 w.heap.size [.int .i64 0, .int .i64 0] ∧ Below w.heap.size w w2) (fun _ iv _ => k - (intOf iv).toNat)
      case atStart => exact ⟨0, by omega, rfl, rfl, N1.out, HB.out⟩
      case round =>
        obtain ⟨j, hj, rfl, rfl, hn0, hb⟩ := hrel
        rename World => w2
        have N2 := Lib.hid hn0
        have B2 := Lib.hid hb
        clear hn0 hb N1 HB
        by_cases cj : j < k
        · have f1 : decide ((j : Int) < (k : Int)) = true := decide_eq_true (by omega)
          have f2 : decide (j < k) = true := decide_eq_true cj
          have j1 : (j : Int) < (k : Int) := by omega
          have wj : IntKind.i64.wrap ((j : Int) + 1) = (j : Int) + 1 := wrap_in (by omega) (by omega)
          obtain ⟨x, hx⟩ : ∃ x, L[j]? = some x := ⟨_, List.getElem?_eq_getElem (by rw [HM.out]; exact cj)⟩
          obtain ⟨b, off, rfl, y0, _⟩ := (HS.out.below B2.out).at hx
          have OM := Lib.hid (outs_more hx lo hi)
          have ol : outs (L.take j) lo hi ≤ j := Nat.le_trans (List.countP_le_length) (by rw [List.length_take]; omega)
          obtain ⟨n, hn2⟩ : ∃ n, outs (L.take j) lo hi = n := ⟨_, rfl⟩
          rw [hn2] at ol OM ⊢
          have wn : IntKind.i64.wrap ((n : Int) + 1) = (n : Int) + 1 := wrap_in (by omega) (by omega)
          clear hn2 hx
          obtain ⟨xo, xd, xj, xs⟩ := x
          simp only at y0
          replace OM : Hid (outs (L.take (j + 1)) lo hi = n + if (decide (xo < lo) || decide (hi < xo)) = true then 1 else 0) := OM
          cases g1 : decide (xo < lo) with
          | true =>
            rw [g1, Bool.true_or] at OM
            go_wp2_with fail
            exact ⟨⟨j + 1, by omega, by go_num, by rw [OM.out]; rfl, N2.out, B2.out⟩, by simp [intOf]; omega⟩
          | false =>
            cases g2 : decide (hi < xo) with
            | true =>
              rw [g1, g2] at OM
              go_wp2_with fail
              exact ⟨⟨j + 1, by omega, by go_num, by rw [OM.out]; rfl, N2.out, B2.out⟩, by simp [intOf]; omega⟩
            | false =>
              rw [g1, g2] at OM
              go_wp2_with fail
              exact ⟨⟨j + 1, by omega, by go_num, by rw [OM.out]; rfl, N2.out, B2.out⟩, by simp [intOf]; omega⟩
        · have f1 : decide ((j : Int) < (k : Int)) = false := decide_eq_false (by omega)
          have f2 : decide (j < k) = false := decide_eq_false cj
          obtain rfl : j = k := by omega
          rw [OE.out]
          obtain ⟨n, hn2⟩ : ∃ n, outs L lo hi = n := ⟨_, rfl⟩
          rw [hn2] at TE ⊢
          have S3 := Lib.hid (blk_set (blk_set N2.out 0 (.int .i64 lo)) 1 (.int .i64 hi))
          have B3 := Lib.hid (below_set (below_set B2.out (Nat.le_refl w.heap.size) 0 (.int .i64 lo)) (Nat.le_refl w.heap.size) 1 (.int .i64 hi))
          obtain ⟨z0, z1⟩ := blk2 N2.out (brefl _)
          have f3 := (N2.out.2 0 _ rfl).2
          have f4 := (N2.out.2 1 _ rfl).2
          clear hn2
          cases g1 : decide (lo ≤ hi) with
          | true =>
            cases g2 : decide (n ≤ a) with
            | true =>
              have g3 : decide ((n : Int) ≤ (a : Int)) = true := decide_eq_true (by have := of_decide_eq_true g2; omega)
              rw [g1, g2] at TE
              go_wp2_with fail
              exact bodyPost_ret (v := .tuple #[.agg #[.int .i64 lo, .int .i64 hi], .bool true]) (RZ.out _ lo hi true S3.out _ rfl rfl) rfl ⟨⟨lo, hi, true, rfl, TE.out⟩, B3.out⟩
            | false =>
              have g3 : decide ((n : Int) ≤ (a : Int)) = false := decide_eq_false (by have := of_decide_eq_false g2; omega)
              rw [g1, g2] at TE
              go_wp2_with fail
              exact bodyPost_ret (v := .tuple #[.agg #[.int .i64 lo, .int .i64 hi], .bool false]) (RZ.out _ lo hi false S3.out _ rfl rfl) rfl ⟨⟨lo, hi, false, rfl, TE.out⟩, B3.out⟩
          | false =>
            rw [g1, Bool.false_and] at TE
            go_wp2_with fail
            exact bodyPost_ret (v := .tuple #[.agg #[.int .i64 lo, .int .i64 hi], .bool false]) (RZ.out _ lo hi false S3.out _ rfl rfl) rfl ⟨⟨lo, hi, false, rfl, TE.out⟩, B3.out⟩
end Go.Proofs.Ytkmbeogmgehnfaa.Vo
