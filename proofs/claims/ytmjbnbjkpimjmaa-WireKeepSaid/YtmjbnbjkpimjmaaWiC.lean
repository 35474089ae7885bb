/-
  Numbers in bytes in memory: the contracts of wire.within, isVersion, isFieldLength, version, number, appendNumber; of sundialref09's in, signed, get, put.
  Conditions: none.
-/
import Derived.Test.YtmjbnbjkpimjmaaWiB
namespace Go.Proofs.Ytmjbnbjkpimjmaa.Wi
open Go.RowKit Go.ChangeShapes Go.WideShapes Go.ChangeAt Go.Joins By
set_option linter.unusedVariables false
set_option linter.unusedSimpArgs false

theorem within_c (n a b : Int) (w : World) : Calls Try.prog 34 #[.int .i64 n, .int .i64 a, .int .i64 b] w fun e w' => e = .returned (.bool (btw n a b)) ∧ w' = w := by
  go_enter Try.func34, Try.ntmps34
  by_cases c : a ≤ n
  · have e1 : decide (a ≤ n) = true := decide_eq_true c
    go_wp2_with fail
    go_ret
    exact ⟨by simp [btw, e1], rfl⟩
  · have e1 : decide (a ≤ n) = false := decide_eq_false c
    go_wp2_with fail
    go_ret
    exact ⟨by simp [btw, e1], rfl⟩
theorem in_c (n a b : Int) (w : World) : Calls Try.prog 25 #[.int .i64 n, .int .i64 a, .int .i64 b] w fun e w' => e = .returned (.bool (btw n a b)) ∧ w' = w := by
  go_enter Try.func25, Try.ntmps25
  by_cases c : a ≤ n
  · have e1 : decide (a ≤ n) = true := decide_eq_true c
    go_wp2_with fail
    go_ret
    exact ⟨by simp [btw, e1], rfl⟩
  · have e1 : decide (a ≤ n) = false := decide_eq_false c
    go_wp2_with fail
    go_ret
    exact ⟨by simp [btw, e1], rfl⟩
theorem isVersion_c (n : Int) (w : World) : Calls Try.prog 35 #[.int .i64 n] w fun e w' => e = .returned (.bool (btw n 1 4)) ∧ w' = w := by
  have H := Lib.hid (within_c n 1 4 w)
  go_enter Try.func35, Try.ntmps35
  go_wp2_with fail
  refine H.out.mono ?_
  rintro e w1 ⟨rfl, rfl⟩
  go_wp2_with fail
  go_ret
  exact ⟨rfl, rfl⟩
/-- is it the length of a field? -/
def okL (n : Nat) : Bool := decide (16 ≤ n) && decide (n % 4 = 0)
theorem isFieldLength_c (n : Nat) (w : World) : Calls Try.prog 39 #[.int .i64 (n : Int)] w fun e w' => e = .returned (.bool (okL n)) ∧ w' = w := by
  have k0 : (0 : Int) ≤ (n : Int) := by omega
  have q : (n : Int).tmod 4 = (n : Int) % 4 := Int.tmod_eq_emod_of_nonneg (by omega)
  go_enter Try.func39, Try.ntmps39
  by_cases c : 16 ≤ n
  · have e1 : decide ((16 : Int) ≤ (n : Int)) = true := decide_eq_true (by omega)
    go_wp2_with fail
    go_ret
    refine ⟨?_, rfl⟩
    have e : ((n : Int) % 4 == 0) = okL n := by
      unfold okL
      rw [decide_eq_true c, Bool.true_and]
      by_cases d : n % 4 = 0
      · rw [decide_eq_true d]; simp; omega
      · rw [decide_eq_false d]; simp; omega
    rw [← e]
    rfl
  · have e1 : decide ((16 : Int) ≤ (n : Int)) = false := decide_eq_false (by omega)
    go_wp2_with fail
    go_ret
    exact ⟨by simp [okL, c], rfl⟩
theorem signed_c (c : Nat) (h : c < 256) (w : World) : Calls Try.prog 41 #[.int .u8 (c : Int)] w fun e w' => e = .returned (.int .i64 (sg c)) ∧ w' = w := by
  have k0 : (0 : Int) ≤ (c : Int) := by omega
  have k1 : (c : Int) < 256 := by omega
  go_enter Try.func41, Try.ntmps41
  by_cases d : 128 ≤ c
  · have e1 : decide ((128 : Int) ≤ (c : Int)) = true := decide_eq_true (by omega)
    go_wp2_with fail
    go_ret
    exact ⟨by simp [sg, d], rfl⟩
  · have e1 : decide ((128 : Int) ≤ (c : Int)) = false := decide_eq_false (by omega)
    go_wp2_with fail
    go_ret
    exact ⟨by simp [sg, d], rfl⟩
theorem version_c {w : World} {b o n : Nat} {f : Nat → Nat} (cap : Nat) (h : Bs w b o n f) (hn : 0 < n) : Calls Try.prog 38 #[.slice (some ⟨b, o, none⟩) n cap] w fun e w' => e = .returned (.int .i64 (f 0 / 8 % 8 : Nat)) ∧ w' = w := by
  have c0 := h.2.2 0 hn
  have k := h.2.1 0
  rw [Nat.add_zero] at c0
  generalize f 0 = x at *
  have k0 : (0 : Int) ≤ (x : Int) := by omega
  have k1 : (x : Int) < 256 := by omega
  have n1 : (0 : Int) < (n : Int) := by omega
  go_enter Try.func38, Try.ntmps38
  go_wp2_with fail
  go_ret
  exact ⟨rfl, rfl⟩
theorem or64 (g x : Nat) (hg : g < 72057594037927936) (hx : x < 256) : bits BinOp.or IntKind.u64 ((g : Int) * 256) (x : Int) = ((g * 256 + x : Nat) : Int) := by
  have e : (BitVec.ofInt 64 ((g : Int) * 256) ||| BitVec.ofInt 64 (x : Int)).toNat = g * 256 + x := by
    rw [BitVec.toNat_or, BitVec.toNat_ofInt, BitVec.toNat_ofInt]
    have h1 : (((g : Int) * 256) % ((2 ^ 64 : Nat) : Int)).toNat = 2 ^ 8 * g := by omega
    have h2 : ((x : Int) % ((2 ^ 64 : Nat) : Int)).toNat = x := by omega
    rw [h1, h2, ← Nat.two_pow_add_eq_or_of_lt (i := 8) hx]
    omega
  show IntKind.u64.wrap ((BitVec.ofInt 64 ((g : Int) * 256) ||| BitVec.ofInt 64 (x : Int)).toNat : Int) = _
  rw [e]
  simp only [IntKind.wrap, IntKind.bits, IntKind.signed]
  simp
  omega
set_option maxHeartbeats 1000000 in
theorem number_c {w : World} {b o n : Nat} {f : Nat → Nat} (cap : Nat) (h : Bs w b o n f) (hn : n ≤ 8) : Calls Try.prog 29 #[.slice (some ⟨b, o, none⟩) n cap] w fun e w' => e = .returned (.int .u64 (gt f 0 n : Nat)) ∧ w' = w := by
  have H := Lib.hid h
  clear h
  go_enter Try.func29, Try.ntmps29
  go_wp2_with fail
  go_loopw [3, 8] (fun v iv wr => ∃ k : Nat, k ≤ n ∧ v = .int .u64 (gt f 0 k : Nat) ∧ iv = .int .i64 k ∧ wr = w) (fun _ iv _ => n - (intOf iv).toNat)
  case atStart => exact ⟨0, Nat.zero_le _, rfl, rfl, rfl⟩
  case round =>
    obtain ⟨k, hk, rfl, rfl, rfl⟩ := hrel
    by_cases c : k < n
    · have c0 := H.out.2.2 k c
      have x0 := H.out.2.1 k
      have g0 := gt_lt H.out.2.1 0 k
      have g1 : 256 ^ k ≤ 256 ^ 7 := Nat.pow_le_pow_right (by omega) (by omega)
      have E : Hid (gt f 0 (k + 1) = gt f 0 k * 256 + f k) := Lib.hid (by rw [gt, Nat.zero_add])
      generalize f k = x at *
      generalize gt f 0 k = g at *
      have O := Lib.hid (or64 g x (by omega) x0)
      have k0 : (0 : Int) ≤ (x : Int) := by omega
      have k1 : (x : Int) < 256 := by omega
      have k2 : (0 : Int) ≤ (g : Int) := by omega
      have k3 : (g : Int) < 72057594037927936 := by omega
      have kn : (k : Int) < (n : Int) := by omega
      clear g0 g1
      go_wp2_with fail
      exact ⟨⟨k + 1, by omega, by rw [O.out, E.out], rfl, trivial⟩, by simp [intOf]; omega⟩
    · obtain rfl : k = n := by omega
      go_wp2_with fail
      go_ret
      exact ⟨rfl, rfl⟩
set_option maxHeartbeats 1000000 in
theorem get_c {w : World} {b o n : Nat} {f : Nat → Nat} (cap : Nat) (h : Bs w b o n f) (a m : Nat) (hm : m ≤ 8) (ha : a + m ≤ n) (hn : n ≤ 140737488351232) : Calls Try.prog 32 #[.slice (some ⟨b, o, none⟩) n cap, .int .i64 (a : Int), .int .i64 (m : Int)] w fun e w' => e = .returned (.int .u64 (gt f a m : Nat)) ∧ w' = w := by
  have H := Lib.hid h
  clear h
  have q0 : (0 : Int) ≤ (a : Int) := by omega
  have q1 : (a : Int) + (m : Int) ≤ (n : Int) := by omega
  have q2 : (n : Int) ≤ 140737488351232 := by omega
  go_enter Try.func32, Try.ntmps32
  go_wp2_with fail
  go_loopw [7, 8] (fun v iv wr => ∃ k : Nat, k ≤ m ∧ v = .int .u64 (gt f a k : Nat) ∧ iv = .int .i64 k ∧ wr = w) (fun _ iv _ => m - (intOf iv).toNat)
  case atStart => exact ⟨0, Nat.zero_le _, rfl, rfl, rfl⟩
  case round =>
    obtain ⟨k, hk, rfl, rfl, rfl⟩ := hrel
    by_cases c : k < m
    · have c0 := H.out.2.2 (a + k) (by omega)
      have x0 := H.out.2.1 (a + k)
      have g0 := gt_lt H.out.2.1 a k
      have g1 : 256 ^ k ≤ 256 ^ 7 := Nat.pow_le_pow_right (by omega) (by omega)
      have E : Hid (gt f a (k + 1) = gt f a k * 256 + f (a + k)) := Lib.hid rfl
      generalize f (a + k) = x at *
      generalize gt f a k = g at *
      have O := Lib.hid (or64 g x (by omega) x0)
      have k0 : (0 : Int) ≤ (x : Int) := by omega
      have k1 : (x : Int) < 256 := by omega
      have k2 : (0 : Int) ≤ (g : Int) := by omega
      have k3 : (g : Int) < 72057594037927936 := by omega
      have kn : (k : Int) < (m : Int) := by omega
      have kz : (0 : Int) ≤ (a : Int) + (k : Int) := by omega
      have ky : (a : Int) + (k : Int) < (n : Int) := by omega
      clear g0 g1
      go_wp2_with fail
      exact ⟨⟨k + 1, by omega, by rw [O.out, E.out], rfl, trivial⟩, by simp [intOf]; omega⟩
    · obtain rfl : k = m := by omega
      go_wp2_with fail
      go_ret
      exact ⟨rfl, rfl⟩
theorem pt_succ_at (n w i : Nat) (h : i < w) : (pt n w).take (i + 1) = (pt n w).take i ++ [n / 256 ^ (w - 1 - i) % 256] := by
  have e := pt_at n w i h
  have hl : i < (pt n w).length := by rw [pt_len]; exact h
  rw [List.getD_eq_getElem?_getD, List.getElem?_eq_getElem hl, Option.getD_some] at e
  rw [List.take_add_one, List.getElem?_eq_getElem hl, e]
  rfl
def sl (v : Value) : Nat := match v with | .slice _ n _ => n | _ => 0
set_option maxRecDepth 100000 in
set_option maxHeartbeats 2000000 in
theorem appendNumber_c {w : World} {base : Nat} {v : Value} {l : List Nat} (hO : Own w base v l) (hb : base ≤ w.heap.size) (m x : Nat) (hm : m ≤ 8) (hx : x < 18446744073709551616) (hl : l.length ≤ 140737488351296) :
    Calls Try.prog 19 #[v, .int .i64 (m : Int), .int .u64 (x : Int)] w fun e w' => (∃ v', e = .returned v' ∧ Own w' base v' (l ++ pt x m)) ∧ Below base w w' ∧ w.heap.size ≤ w'.heap.size := by
  have H := Lib.hid hO
  clear hO
  have q0 : (0 : Int) ≤ (m : Int) := by omega
  have q1 : (m : Int) ≤ 8 := by omega
  have q2 : (0 : Int) ≤ (x : Int) := by omega
  have q3 : (x : Int) < 18446744073709551616 := by omega
  go_enter Try.func19, Try.ntmps19
  go_wp2_with fail
  go_loopw [0, 7] (fun v iv wr => ∃ j k : Nat, k + j = m ∧ Own wr base v (l ++ (pt x m).take k) ∧ iv = .int .i64 (8 * (j : Int) - 8) ∧ Below base w wr ∧ w.heap.size ≤ wr.heap.size) (fun _ iv _ => ((intOf iv) + 8).toNat)
  case atStart => exact ⟨m, 0, by omega, by simpa using H.out, by simp; omega, Below.refl _ _, Nat.le_refl _⟩
  case round =>
    obtain ⟨j, k, hk, ho, rfl, hbw, hs⟩ := hrel
    rename World => wr
    have HB := Lib.hid hbw
    have HS := Lib.hid hs
    clear hbw hs
    cases j with
    | succ d =>
      obtain ⟨q, hq⟩ : ∃ q : Nat, q = x / 256 ^ d := ⟨_, rfl⟩
      have HQ : (x : Int) / 2 ^ (8 * d) = (q : Int) := by rw [hq, show (256 : Nat) = 2 ^ 8 from rfl, ← Nat.pow_mul]; simp
      obtain ⟨v', w', hr, o', b', s'⟩ := app1 ho (q % 256) (by have := HS.out; omega) (by have := pt_len x m; simp; omega) 28
      have O' : Hid (Own w' base v' (l ++ (pt x m).take (k + 1))) := Lib.hid (by rw [pt_succ_at _ _ _ (by omega), show m - 1 - k = d by omega, ← hq]; simpa using o')
      rw [show ((q % 256 : Nat) : Int) = (q : Int) % 256 by omega] at hr
      have B' := Lib.hid (HB.out.trans b')
      have S' := Lib.hid (Nat.le_trans HS.out s')
      have e8 : 8 * ((d + 1 : Nat) : Int) - 8 = ((8 * d : Nat) : Int) := by omega
      rw [e8]
      have HM := Lib.hid (show (((((8 * d : Nat) : Int) + 8).toNat = 8 * d + 8)) by omega)
      have HR := Lib.hid (show ((8 * d : Nat) : Int) - 8 = 8 * (d : Int) - 8 by omega)
      have HK := Lib.hid (show (k + 1) + d = m by omega)
      have t0 : (0 : Int) ≤ ((8 * d : Nat) : Int) := by omega
      have t1 : ((8 * d : Nat) : Int) ≤ 56 := by omega
      clear hq
      have HD := Lib.hid (show 8 * d ≤ 56 by omega)
      clear b' s' o' e8 t0 t1
      generalize 8 * d = s at *
      have t0 : (0 : Int) ≤ (s : Int) := by omega
      have t1 : (s : Int) ≤ 56 := by have := HD.out; omega
      clear q0 q1 hm
      go_wp2_with (first | (at_builtin; refine wpList_append_eq rfl _ _ 28 rfl _ _ v' w' rfl rfl hr ?_))
      exact ⟨⟨d, k + 1, HK.out, O'.out, by rw [HR.out], B'.out, S'.out⟩, by show ((s : Int) - 8 + 8).toNat < ((s : Int) + 8).toNat; omega⟩
    | zero =>
      obtain rfl : k = m := by omega
      have HO := Lib.hid ho
      clear ho
      have HT : Hid ((pt x k).take k = pt x k) := Lib.hid (by rw [List.take_of_length_le]; rw [pt_len]; omega)
      go_wp2_with fail
      go_ret
      exact ⟨⟨_, rfl, by rw [← HT.out]; exact HO.out⟩, HB.out, HS.out⟩

set_option maxRecDepth 100000 in
set_option maxHeartbeats 2000000 in
theorem put_c {w : World} {base : Nat} {v : Value} {l : List Nat} (hO : Own w base v l) (hb : base ≤ w.heap.size) (m x : Nat) (hm : m ≤ 8) (hx : x < 18446744073709551616) (hl : l.length ≤ 140737488351296) :
    Calls Try.prog 21 #[v, .int .u64 (x : Int), .int .i64 (m : Int)] w fun e w' => (∃ v', e = .returned v' ∧ Own w' base v' (l ++ pt x m)) ∧ Below base w w' ∧ w.heap.size ≤ w'.heap.size := by
  have H := Lib.hid hO
  clear hO
  have q0 : (0 : Int) ≤ (m : Int) := by omega
  have q1 : (m : Int) ≤ 8 := by omega
  have q2 : (0 : Int) ≤ (x : Int) := by omega
  have q3 : (x : Int) < 18446744073709551616 := by omega
  go_enter Try.func21, Try.ntmps21
  go_wp2_with fail
  go_loopw [0, 7] (fun v iv wr => ∃ j k : Nat, k + j = m ∧ Own wr base v (l ++ (pt x m).take k) ∧ iv = .int .i64 ((j : Int) - 1) ∧ Below base w wr ∧ w.heap.size ≤ wr.heap.size) (fun _ iv _ => ((intOf iv) + 1).toNat)
  case atStart => exact ⟨m, 0, by omega, by simpa using H.out, rfl, Below.refl _ _, Nat.le_refl _⟩
  case round =>
    obtain ⟨j, k, hk, ho, rfl, hbw, hs⟩ := hrel
    rename World => wr
    have HB := Lib.hid hbw
    have HS := Lib.hid hs
    clear hbw hs
    cases j with
    | succ d =>
      obtain ⟨q, hq⟩ : ∃ q : Nat, q = x / 256 ^ d := ⟨_, rfl⟩
      have HQ : (x : Int) / 2 ^ (8 * d) = (q : Int) := by rw [hq, show (256 : Nat) = 2 ^ 8 from rfl, ← Nat.pow_mul]; simp
      obtain ⟨v', w', hr, o', b', s'⟩ := app1 ho (q % 256) (by have := HS.out; omega) (by have := pt_len x m; simp; omega) 28
      have O' : Hid (Own w' base v' (l ++ (pt x m).take (k + 1))) := Lib.hid (by rw [pt_succ_at _ _ _ (by omega), show m - 1 - k = d by omega, ← hq]; simpa using o')
      rw [show ((q % 256 : Nat) : Int) = (q : Int) % 256 by omega] at hr
      have B' := Lib.hid (HB.out.trans b')
      have S' := Lib.hid (Nat.le_trans HS.out s')
      have e8 : ((d + 1 : Nat) : Int) - 1 = (d : Int) := by omega
      rw [e8]
      have HK := Lib.hid (show (k + 1) + d = m by omega)
      have t0 : (0 : Int) ≤ (d : Int) := by omega
      have t1 : (d : Int) ≤ 7 := by omega
      clear b' s' o' e8 hq q0 q1 hm
      go_wp2_with (first | (at_builtin; refine wpList_append_eq rfl _ _ 28 rfl _ _ v' w' rfl rfl hr ?_))
      exact ⟨⟨d, k + 1, HK.out, O'.out, rfl, B'.out, S'.out⟩, by show ((d : Int) - 1 + 1).toNat < ((d : Int) + 1).toNat; omega⟩
    | zero =>
      obtain rfl : k = m := by omega
      have HO := Lib.hid ho
      clear ho
      have HT : Hid ((pt x k).take k = pt x k) := Lib.hid (by rw [List.take_of_length_le]; rw [pt_len]; omega)
      go_wp2_with fail
      go_ret
      exact ⟨⟨_, rfl, by rw [← HT.out]; exact HO.out⟩, HB.out, HS.out⟩

end Go.Proofs.Ytmjbnbjkpimjmaa.Wi
