/-
  Are candidates right? How many of them hold a time; how many middles lie outside; the truechimers: the program's ways.
  Conditions: none but that the candidates lie in memory.
-/
import Derived.Test.YtkmbeogmgehnfaaVpB
import Derived.Test.YtkmbeogmgehnfaaVoE
namespace Go.Proofs.Ytkmbeogmgehnfaa.Vo
open Go.RowKit Go.ChangeShapes Go.WideShapes Go.ChangeAt Go.Joins Fl Hu
set_option linter.unusedVariables false
set_option linter.unusedSimpArgs false

set_option maxRecDepth 100000 in
set_option maxHeartbeats 4000000 in
theorem index_c {w : World} {v : Value} {L : List Cd} (h : Cs w v L) (hn : L.length ≤ 8796093022208) :
    Calls Try.prog 54 #[v, .func (.func 35) #[] #[]] w fun e w' => (∃ i : Int, e = .returned (.int .i64 i) ∧ decide (0 ≤ i) = !decide (∀ c ∈ L, okC c)) ∧ Below w.heap.size w w' := by
  have HS := Lib.hid h
  obtain ⟨a, cap, rfl, c1, c2, _⟩ := h
  obtain ⟨m, hm⟩ : ∃ m, L.length = m := ⟨_, rfl⟩
  have HM := Lib.hid hm
  have AQ : Hid (∀ c ∈ L, ¬ okC c → (!decide (∀ c ∈ L, okC c)) = true) := Lib.hid fun c hc n => by rw [decide_eq_false fun q => n (q c hc)]; rfl
  have AN : Hid ((∀ c ∈ L, okC c) → (!decide (∀ c ∈ L, okC c)) = false) := Lib.hid fun q => by rw [decide_eq_true q]; rfl
  generalize (!decide (∀ c ∈ L, okC c)) = r at *
  rw [hm] at HS c1 hn ⊢
  have m0 : (0 : Int) ≤ (m : Int) := by omega
  have m1 : (m : Int) ≤ 8796093022208 := by omega
  have m2 : (m : Int) ≤ (cap : Int) := by omega
  have m3 : (cap : Int) ≤ 9223372036854775807 := by omega
  clear hm
  go_enter Try.func54, Try.ntmps54
  go_wp2_with fail
  go_loopw [5, 8] (fun _ iv wr => ∃ k : Nat, k ≤ m ∧ iv = .int .i64 (k : Nat) ∧ (∀ s ∈ L.take k, okC s) ∧ Below w.heap.size w wr) (fun _ iv _ => m - (intOf iv).toNat)
  case atStart => exact ⟨0, by omega, rfl, by simp, brefl w⟩
  case round =>
    obtain ⟨k, hk, rfl, hok, hb⟩ := hrel
    rename World => wr
    have HB := Lib.hid hb
    have HK := Lib.hid hok
    clear hb hok
    by_cases c : k < m
    · have e1 : decide ((k : Int) < (m : Int)) = true := decide_eq_true (by omega)
      have e2 : decide (k < m) = true := decide_eq_true c
      have k1 : (k : Int) < (m : Int) := by omega
      have k0 : (0 : Int) ≤ (k : Int) := by omega
      have wk : IntKind.i64.wrap ((k : Int) + 1) = (k : Int) + 1 := wrap_in (by omega) (by omega)
      obtain ⟨x, hx⟩ : ∃ x, L[k]? = some x := ⟨_, List.getElem?_eq_getElem (by rw [HM.out]; exact c)⟩
      have HX := Lib.hid hx
      have IW := Lib.hid (fun w => isWrong_c x w)
      obtain ⟨b, off, rfl, y0, y1, y2, y3⟩ := (HS.out.below HB.out).at hx
      clear hx
      by_cases ok : okC x
      · rw [decide_eq_true ok] at IW
        have NK := Lib.hid (all_more HX.out HK.out ok)
        obtain ⟨xo, xd, xj, xs⟩ := x
        simp only at y0 y1 y2 y3
        replace IW : Hid (∀ w, Calls Try.prog 35 #[.agg #[.int .i64 xo, .int .i64 xd, .int .i64 xj, .int .i64 xs]] w fun e w' => e = .returned (.bool false) ∧ Below w.heap.size w w') := IW
        clear ok
        go_wp2_with fail
        refine (IW.out _).mono ?_
        rintro e w3 ⟨rfl, hb⟩
        have B3 := Lib.hid (bstep HB.out hb)
        clear hb y0 y1 y2 y3
        go_wp2_with fail
        exact ⟨⟨k + 1, by omega, by go_num, NK.out, B3.out⟩, by simp [intOf]; omega⟩
      · rw [decide_eq_false ok] at IW
        have NO := Lib.hid (AQ.out x (List.mem_of_getElem? HX.out) ok)
        obtain ⟨xo, xd, xj, xs⟩ := x
        simp only at y0 y1 y2 y3
        replace IW : Hid (∀ w, Calls Try.prog 35 #[.agg #[.int .i64 xo, .int .i64 xd, .int .i64 xj, .int .i64 xs]] w fun e w' => e = .returned (.bool true) ∧ Below w.heap.size w w') := IW
        clear ok
        go_wp2_with fail
        refine (IW.out _).mono ?_
        rintro e w3 ⟨rfl, hb⟩
        have B3 := Lib.hid (bstep HB.out hb)
        clear hb y0 y1 y2 y3
        go_wp2_with fail
        go_ret
        exact ⟨⟨_, rfl, by rw [NO.out]; exact decide_eq_true k0⟩, B3.out⟩
    · have e1 : decide ((k : Int) < (m : Int)) = false := decide_eq_false (by omega)
      have e2 : decide (k < m) = false := decide_eq_false c
      obtain rfl : k = m := by omega
      have NO := Lib.hid (AN.out (all_done HM.out HK.out))
      go_wp2_with fail
      go_ret
      exact ⟨⟨_, rfl, by rw [NO.out]; rfl⟩, HB.out⟩
set_option maxRecDepth 100000 in
set_option maxHeartbeats 1000000 in
theorem contains_c {w : World} {v : Value} {L : List Cd} (h : Cs w v L) (hn : L.length ≤ 8796093022208) :
    Calls Try.prog 34 #[v, .func (.func 35) #[] #[]] w fun e w' => e = .returned (.bool (!decide (∀ c ∈ L, okC c))) ∧ Below w.heap.size w w' := by
  have IC := Lib.hid (index_c h hn)
  generalize (!decide (∀ c ∈ L, okC c)) = r at *
  go_enter Try.func34, Try.ntmps34
  go_wp2_with fail
  refine IC.out.mono ?_
  rintro e w2 ⟨⟨i, rfl, hi⟩, hb⟩
  have B2 := Lib.hid hb
  clear hb
  go_wp2_with fail
  go_ret
  exact ⟨rfl, B2.out⟩
theorem areRight_c {w : World} {v : Value} {L : List Cd} (h : Cs w v L) (hn : L.length ≤ 8796093022208) :
    Calls Try.prog 16 #[v] w fun e w' => e = .returned (.bool (decide (okL L))) ∧ Below w.heap.size w w' := by
  have CC := Lib.hid (contains_c h hn)
  obtain ⟨a, cap, rfl, c1, c2, _⟩ := h
  have EQ : Hid (decide (okL L) = (decide (L.length ≤ 32) && decide (∀ c ∈ L, okC c))) := Lib.hid (by apply Bool.eq_iff_iff.2; rw [decide_eq_true_iff, Bool.and_eq_true, decide_eq_true_iff, decide_eq_true_iff]; unfold okL; exact And.comm)
  rw [EQ.out]
  generalize decide (∀ c ∈ L, okC c) = r at *
  generalize L.length = m at *
  have m0 : (0 : Int) ≤ (m : Int) := by omega
  by_cases big : m ≤ 32
  · have d1 : decide ((m : Int) ≤ 32) = true := decide_eq_true (by omega)
    have d2 : decide (m ≤ 32) = true := decide_eq_true big
    rw [d2]
    go_enter Try.func16, Try.ntmps16
    go_wp2_with fail
    refine CC.out.mono ?_
    rintro e w2 ⟨rfl, hb⟩
    have B2 := Lib.hid hb
    clear hb
    go_wp2_with fail
    go_ret
    exact ⟨by cases r <;> rfl, B2.out⟩
  · have d1 : decide ((m : Int) ≤ 32) = false := decide_eq_false (by omega)
    have d2 : decide (m ≤ 32) = false := decide_eq_false big
    rw [d2]
    go_enter Try.func16, Try.ntmps16
    go_wp2_with fail
    go_ret
    exact ⟨rfl, brefl w⟩
set_option maxRecDepth 100000 in
set_option maxHeartbeats 4000000 in
theorem holders_c {w : World} {v : Value} {L : List Cd} (h : Cs w v L) (hn : L.length ≤ 32) (ok : ∀ c ∈ L, okC c) (t : Int) :
    Calls Try.prog 37 #[v, .int .i64 t] w fun e w' => e = .returned (.int .i64 (cnt (sps L) t : Nat)) ∧ Below w.heap.size w w' := by
  have HS := Lib.hid h
  have OK := Lib.hid ok
  obtain ⟨a, cap, rfl, c1, c2, _⟩ := h
  obtain ⟨m, hm⟩ : ∃ m, L.length = m := ⟨_, rfl⟩
  have HM := Lib.hid hm
  have CE : Hid (cnt (sps (L.take m)) t = cnt (sps L) t) := Lib.hid (by rw [List.take_of_length_le (by rw [hm]; exact Nat.le_refl _)])
  rw [hm] at HS c1 hn ⊢
  have m0 : (0 : Int) ≤ (m : Int) := by omega
  have m1 : (m : Int) ≤ 32 := by omega
  have m2 : (m : Int) ≤ (cap : Int) := by omega
  have m3 : (cap : Int) ≤ 9223372036854775807 := by omega
  clear hm ok
  go_enter Try.func37, Try.ntmps37
  go_wp2_with fail
  go_loopw [5, 11] (fun nv iv wr => ∃ k : Nat, k ≤ m ∧ iv = .int .i64 (k : Nat) ∧ nv = .int .i64 (cnt (sps (L.take k)) t : Nat) ∧ Below w.heap.size w wr) (fun _ iv _ => m - (intOf iv).toNat)
  case atStart => exact ⟨0, by omega, rfl, rfl, brefl w⟩
  case round =>
    obtain ⟨k, hk, rfl, rfl, hb⟩ := hrel
    rename World => wr
    have HB := Lib.hid hb
    clear hb
    by_cases c : k < m
    · have e1 : decide ((k : Int) < (m : Int)) = true := decide_eq_true (by omega)
      have e2 : decide (k < m) = true := decide_eq_true c
      have k1 : (k : Int) < (m : Int) := by omega
      have k0 : (0 : Int) ≤ (k : Int) := by omega
      have wk : IntKind.i64.wrap ((k : Int) + 1) = (k : Int) + 1 := wrap_in (by omega) (by omega)
      obtain ⟨x, hx⟩ : ∃ x, L[k]? = some x := ⟨_, List.getElem?_eq_getElem (by rw [HM.out]; exact c)⟩
      have cl : cnt (sps (L.take k)) t ≤ k := Nat.le_trans (cnt_le _ _) (by rw [sps_len, List.length_take]; omega)
      have CS := Lib.hid (cnt_snoc hx t)
      have SP := Lib.hid (fun w => spanOf_c x w (OK.out x (List.mem_of_getElem? hx)))
      obtain ⟨b, off, rfl, y0, y1, y2, y3⟩ := (HS.out.below HB.out).at hx
      obtain ⟨n, hn2⟩ : ∃ n, cnt (sps (L.take k)) t = n := ⟨_, rfl⟩
      rw [hn2] at cl CS ⊢
      have wn : IntKind.i64.wrap ((n : Int) + 1) = (n : Int) + 1 := wrap_in (by omega) (by omega)
      clear hx hn2
      obtain ⟨xo, xd, xj, xs⟩ := x
      obtain ⟨xl, hxl⟩ : ∃ z, xo - xd = z := ⟨_, rfl⟩
      obtain ⟨xh, hxh⟩ : ∃ z, xo + xd = z := ⟨_, rfl⟩
      simp only [hxl, hxh] at y0 y1 y2 y3 SP
      replace CS : Hid (cnt (sps (L.take (k + 1))) t = n + if (decide (xo - xd ≤ t) && decide (t ≤ xo + xd)) = true then 1 else 0) := CS
      rw [hxl, hxh] at CS
      clear hxl hxh
      replace SP : Hid (∀ w, Calls Try.prog 36 #[.agg #[.int .i64 xo, .int .i64 xd, .int .i64 xj, .int .i64 xs]] w fun e w' => e = .returned (.agg #[.int .i64 xl, .int .i64 xh]) ∧ Below w.heap.size w w') := SP
      have NA := Lib.hid (new4 wr xo xd xj xs 44)
      have BA := Lib.hid (balloc HB.out (.cells #[.int .i64 xo, .int .i64 xd, .int .i64 xj, .int .i64 xs] 44))
      go_upto_region 5 with fail
      generalize wr.alloc (.cells #[.int .i64 xo, .int .i64 xd, .int .i64 xj, .int .i64 xs] 44) = wa at *
      obtain ⟨z0, z1, z2, z3⟩ := blk4 NA.out (brefl wa)
      go_wp2_with fail
      refine (SP.out _).mono ?_
      rintro e w3 ⟨rfl, hb⟩
      have hb2 := balloc hb (.cells #[.int .i64 xl, .int .i64 xh] 27)
      have B3 := Lib.hid (bstep BA.out hb2)
      clear hb hb2 y0 y1 y2 y3 z0 z1 z2 z3 SP NA BA
      cases d1 : decide (xl ≤ t) with
      | true =>
        cases d2 : decide (t ≤ xh) with
        | true =>
          rw [d1, d2] at CS
          go_wp2_with fail
          exact ⟨⟨k + 1, by omega, by go_num, by rw [CS.out]; rfl, B3.out⟩, by simp [intOf]; omega⟩
        | false =>
          rw [d1, d2] at CS
          go_wp2_with fail
          exact ⟨⟨k + 1, by omega, by go_num, by rw [CS.out]; rfl, B3.out⟩, by simp [intOf]; omega⟩
      | false =>
        rw [d1, Bool.false_and] at CS
        go_wp2_with fail
        exact ⟨⟨k + 1, by omega, by go_num, by rw [CS.out]; rfl, B3.out⟩, by simp [intOf]; omega⟩
    · have e1 : decide ((k : Int) < (m : Int)) = false := decide_eq_false (by omega)
      have e2 : decide (k < m) = false := decide_eq_false c
      obtain rfl : k = m := by omega
      rw [CE.out]
      go_wp2_with fail
      go_ret
      exact ⟨rfl, HB.out⟩
set_option maxRecDepth 100000 in
set_option maxHeartbeats 4000000 in
theorem outside_c {w : World} {v : Value} {L : List Cd} (h : Cs w v L) (hn : L.length ≤ 32) (ok : ∀ c ∈ L, okC c) (lo hi : Int) :
    Calls Try.prog 18 #[v, .agg #[.int .i64 lo, .int .i64 hi]] w fun e w' => e = .returned (.int .i64 (outs L lo hi : Nat)) ∧ Below w.heap.size w w' := by
  have HS := Lib.hid h
  have OK := Lib.hid ok
  obtain ⟨a, cap, rfl, c1, c2, _⟩ := h
  obtain ⟨m, hm⟩ : ∃ m, L.length = m := ⟨_, rfl⟩
  have HM := Lib.hid hm
  have CE : Hid (outs (L.take m) lo hi = outs L lo hi) := Lib.hid (by rw [List.take_of_length_le (by rw [hm]; exact Nat.le_refl _)])
  have N0 := Lib.hid (new2 w lo hi 27)
  have B0 := Lib.hid (balloc (brefl w) (.cells #[.int .i64 lo, .int .i64 hi] 27))
  rw [hm] at HS c1 hn ⊢
  have m0 : (0 : Int) ≤ (m : Int) := by omega
  have m1 : (m : Int) ≤ 32 := by omega
  have m2 : (m : Int) ≤ (cap : Int) := by omega
  have m3 : (cap : Int) ≤ 9223372036854775807 := by omega
  clear hm ok
  go_enter Try.func18, Try.ntmps18
  go_wp2_with fail
  go_loopw [5, 10] (fun nv iv wr => ∃ k : Nat, k ≤ m ∧ iv = .int .i64 (k : Nat) ∧ nv = .int .i64 (outs (L.take k) lo hi : Nat) ∧ Blk wr w.heap.size [.int .i64 lo, .int .i64 hi] ∧ Below w.heap.size w wr) (fun _ iv _ => m - (intOf iv).toNat)
  case atStart => exact ⟨0, by omega, rfl, rfl, N0.out, B0.out⟩
  case round =>
    obtain ⟨k, hk, rfl, rfl, hn0, hb⟩ := hrel
    rename World => wr
    have HB := Lib.hid hb
    have NB := Lib.hid hn0
    clear hb hn0
    by_cases c : k < m
    · have e1 : decide ((k : Int) < (m : Int)) = true := decide_eq_true (by omega)
      have e2 : decide (k < m) = true := decide_eq_true c
      have k1 : (k : Int) < (m : Int) := by omega
      have k0 : (0 : Int) ≤ (k : Int) := by omega
      have wk : IntKind.i64.wrap ((k : Int) + 1) = (k : Int) + 1 := wrap_in (by omega) (by omega)
      obtain ⟨x, hx⟩ : ∃ x, L[k]? = some x := ⟨_, List.getElem?_eq_getElem (by rw [HM.out]; exact c)⟩
      have cl : outs (L.take k) lo hi ≤ k := Nat.le_trans List.countP_le_length (by rw [List.length_take]; omega)
      have CS := Lib.hid (outs_more hx lo hi)
      obtain ⟨b, off, rfl, y0, y1, y2, y3⟩ := (HS.out.below HB.out).at hx
      obtain ⟨n, hn2⟩ : ∃ n, outs (L.take k) lo hi = n := ⟨_, rfl⟩
      rw [hn2] at cl CS ⊢
      have wn : IntKind.i64.wrap ((n : Int) + 1) = (n : Int) + 1 := wrap_in (by omega) (by omega)
      clear hx hn2
      obtain ⟨xo, xd, xj, xs⟩ := x
      simp only at y0 y1 y2 y3
      replace CS : Hid (outs (L.take (k + 1)) lo hi = n + if (decide (xo < lo) || decide (hi < xo)) = true then 1 else 0) := CS
      have NA := Lib.hid (new4 wr xo xd xj xs 44)
      have BA := Lib.hid (balloc HB.out (.cells #[.int .i64 xo, .int .i64 xd, .int .i64 xj, .int .i64 xs] 44))
      have NC := Lib.hid (NB.out.below (balloc (brefl wr) (.cells #[.int .i64 xo, .int .i64 xd, .int .i64 xj, .int .i64 xs] 44)))
      go_upto_region 5 with fail
      generalize wr.alloc (.cells #[.int .i64 xo, .int .i64 xd, .int .i64 xj, .int .i64 xs] 44) = wa at *
      obtain ⟨z0, z1, z2, z3⟩ := blk4 NA.out (brefl wa)
      obtain ⟨u0, u1⟩ := blk2 NC.out (brefl wa)
      clear y0 y1 y2 y3
      cases d1 : decide (xo < lo) with
      | true =>
        rw [d1, Bool.true_or] at CS
        go_wp2_with fail
        exact ⟨⟨k + 1, by omega, by go_num, by rw [CS.out]; rfl, NC.out, BA.out⟩, by simp [intOf]; omega⟩
      | false =>
        cases d2 : decide (hi < xo) with
        | true =>
          rw [d1, d2] at CS
          go_wp2_with fail
          exact ⟨⟨k + 1, by omega, by go_num, by rw [CS.out]; rfl, NC.out, BA.out⟩, by simp [intOf]; omega⟩
        | false =>
          rw [d1, d2] at CS
          go_wp2_with fail
          exact ⟨⟨k + 1, by omega, by go_num, by rw [CS.out]; rfl, NC.out, BA.out⟩, by simp [intOf]; omega⟩
    · have e1 : decide ((k : Int) < (m : Int)) = false := decide_eq_false (by omega)
      have e2 : decide (k < m) = false := decide_eq_false c
      obtain rfl : k = m := by omega
      rw [CE.out]
      go_wp2_with fail
      go_ret
      exact ⟨rfl, HB.out⟩
set_option maxRecDepth 100000 in
set_option maxHeartbeats 4000000 in
theorem truechimers_c {w : World} {v : Value} {L : List Cd} (h : Cs w v L) (hn : L.length ≤ 32) (ok : ∀ c ∈ L, okC c) (lo hi : Int) :
    Calls Try.prog 19 #[v, .agg #[.int .i64 lo, .int .i64 hi]] w fun e w' => (∃ u, e = .returned u ∧ OwnI w' w.heap.size u (ints (tru L lo hi L.length))) ∧ Below w.heap.size w w' := by
  have HS := Lib.hid h
  have OK := Lib.hid ok
  obtain ⟨a, cap, rfl, c1, c2, _⟩ := h
  obtain ⟨m, hm⟩ : ∃ m, L.length = m := ⟨_, rfl⟩
  have HM := Lib.hid hm
  have N0 := Lib.hid (new2 w lo hi 27)
  have B0 := Lib.hid (balloc (brefl w) (.cells #[.int .i64 lo, .int .i64 hi] 27))
  rw [hm] at HS c1 hn ⊢
  have m0 : (0 : Int) ≤ (m : Int) := by omega
  have m1 : (m : Int) ≤ 32 := by omega
  have m2 : (m : Int) ≤ (cap : Int) := by omega
  have m3 : (cap : Int) ≤ 9223372036854775807 := by omega
  clear hm ok
  go_enter Try.func19, Try.ntmps19
  go_wp2_with fail
  go_loopw [5, 11] (fun ov iv wr => ∃ k : Nat, k ≤ m ∧ iv = .int .i64 (k : Nat) ∧ OwnI wr (w.heap.size + 1) ov (ints (tru L lo hi k)) ∧ Blk wr w.heap.size [.int .i64 lo, .int .i64 hi] ∧ Below w.heap.size w wr) (fun _ iv _ => m - (intOf iv).toNat)
  case atStart => exact ⟨0, by omega, rfl, OwnI.nil _ _, N0.out, B0.out⟩
  case round =>
    obtain ⟨k, hk, rfl, ho, hn0, hb⟩ := hrel
    rename World => wr
    have OX := Lib.hid ho
    have HB := Lib.hid hb
    have NB := Lib.hid hn0
    clear ho hb hn0
    by_cases c : k < m
    · have e1 : decide ((k : Int) < (m : Int)) = true := decide_eq_true (by omega)
      have e2 : decide (k < m) = true := decide_eq_true c
      have k1 : (k : Int) < (m : Int) := by omega
      have k0 : (0 : Int) ≤ (k : Int) := by omega
      have wk : IntKind.i64.wrap ((k : Int) + 1) = (k : Int) + 1 := wrap_in (by omega) (by omega)
      obtain ⟨x, hx⟩ : ∃ x, L[k]? = some x := ⟨_, List.getElem?_eq_getElem (by rw [HM.out]; exact c)⟩
      have SP := Lib.hid (fun w => spanOf_c x w (OK.out x (List.mem_of_getElem? hx)))
      have TY := Lib.hid (tru_yes (m := lo) (M := hi) hx)
      have TN := Lib.hid (tru_no (m := lo) (M := hi) hx)
      have tl := tru_len L lo hi k
      obtain ⟨b, off, rfl, y0, y1, y2, y3⟩ := (HS.out.below HB.out).at hx
      clear hx
      obtain ⟨xo, xd, xj, xs⟩ := x
      obtain ⟨xl, hxl⟩ : ∃ z, xo - xd = z := ⟨_, rfl⟩
      obtain ⟨xh, hxh⟩ : ∃ z, xo + xd = z := ⟨_, rfl⟩
      have MT : Hid (mt lo hi ⟨xo, xd, xj, xs⟩ = (decide (xl ≤ hi) && decide (lo ≤ xh))) := Lib.hid (by unfold mt; rw [← hxl, ← hxh])
      rw [MT.out] at TY TN
      simp only [hxl, hxh] at y0 y1 y2 y3 SP
      clear hxl hxh
      replace SP : Hid (∀ w, Calls Try.prog 36 #[.agg #[.int .i64 xo, .int .i64 xd, .int .i64 xj, .int .i64 xs]] w fun e w' => e = .returned (.agg #[.int .i64 xl, .int .i64 xh]) ∧ Below w.heap.size w w') := SP
      obtain ⟨oa, oc, eov⟩ := OX.out.form
      subst eov
      have NA := Lib.hid (new4 wr xo xd xj xs 44)
      have BA := Lib.hid (balloc HB.out (.cells #[.int .i64 xo, .int .i64 xd, .int .i64 xj, .int .i64 xs] 44))
      have NC := Lib.hid (NB.out.below (balloc (brefl wr) (.cells #[.int .i64 xo, .int .i64 xd, .int .i64 xj, .int .i64 xs] 44)))
      have OC := Lib.hid (ownI_below OX.out (balloc (brefl wr) (.cells #[.int .i64 xo, .int .i64 xd, .int .i64 xj, .int .i64 xs] 44)))
      go_upto_region 5 with fail
      generalize wr.alloc (.cells #[.int .i64 xo, .int .i64 xd, .int .i64 xj, .int .i64 xs] 44) = wa at *
      obtain ⟨z0, z1, z2, z3⟩ := blk4 NA.out (brefl wa)
      go_wp2_with fail
      refine (SP.out _).mono ?_
      rintro e w5 ⟨rfl, hb⟩
      have hb2 := balloc hb (.cells #[.int .i64 xl, .int .i64 xh] 27)
      have B5 := Lib.hid (bstep BA.out hb2)
      have S5 := Lib.hid (NC.out.below hb2)
      have O5 := Lib.hid (ownI_below OC.out hb2)
      have X5 := Lib.hid (new2 w5 xl xh 27)
      clear hb hb2 y0 y1 y2 y3 z0 z1 z2 z3 SP OX NA NB NC OC BA HB
      go_upto_region 6 with fail
      generalize w5.alloc (.cells #[.int .i64 xl, .int .i64 xh] 27) = w6 at *
      obtain ⟨z0, z1⟩ := blk2 X5.out (brefl w6)
      obtain ⟨x0, x1⟩ := blk2 S5.out (brefl w6)
      cases d1 : decide (xl ≤ hi) with
      | true =>
        cases d2 : decide (lo ≤ xh) with
        | true =>
          rw [d1, d2] at TY
          obtain ⟨v', w7, hr, o7, b7', _⟩ := appI O5.out (k : Int) S5.out.1 (by rw [ints_len]; omega) 23
          have e7 : ints (tru L lo hi k) ++ [(k : Int)] = ints (tru L lo hi (k + 1)) := by rw [TY.out rfl, ints_app]; rfl
          rw [e7] at o7
          have HR := Lib.hid hr
          have O7 := Lib.hid o7
          have S7 := Lib.hid (S5.out.belowB (Nat.lt_succ_self _) b7')
          have B7 := Lib.hid (B5.out.trans (b7'.mono (Nat.le_succ _)))
          clear hr o7 b7' e7
          go_wp2_with (first | (at_builtin; refine wpList_append_eqL rfl _ _ 23 rfl _ _ v' w7 rfl rfl HR.out ?_))
          exact ⟨⟨k + 1, by omega, by go_num, O7.out, S7.out, B7.out⟩, by simp [intOf]; omega⟩
        | false =>
          rw [d1, d2] at TN
          have O6 : Hid (OwnI w6 (w.heap.size + 1) (.slice oa (ints (tru L lo hi k)).length oc) (ints (tru L lo hi (k + 1)))) := Lib.hid (by rw [TN.out rfl]; exact O5.out)
          go_wp2_with fail
          exact ⟨⟨k + 1, by omega, by go_num, O6.out, S5.out, B5.out⟩, by simp [intOf]; omega⟩
      | false =>
        rw [d1, Bool.false_and] at TN
        have O6 : Hid (OwnI w6 (w.heap.size + 1) (.slice oa (ints (tru L lo hi k)).length oc) (ints (tru L lo hi (k + 1)))) := Lib.hid (by rw [TN.out rfl]; exact O5.out)
        go_wp2_with fail
        exact ⟨⟨k + 1, by omega, by go_num, O6.out, S5.out, B5.out⟩, by simp [intOf]; omega⟩
    · have e1 : decide ((k : Int) < (m : Int)) = false := decide_eq_false (by omega)
      have e2 : decide (k < m) = false := decide_eq_false c
      obtain rfl : k = m := by omega
      have O8 := Lib.hid (OX.out.mono (base' := w.heap.size) (Nat.le_succ _))
      go_wp2_with fail
      go_ret
      exact ⟨⟨_, rfl, O8.out⟩, HB.out⟩
end Go.Proofs.Ytkmbeogmgehnfaa.Vo
