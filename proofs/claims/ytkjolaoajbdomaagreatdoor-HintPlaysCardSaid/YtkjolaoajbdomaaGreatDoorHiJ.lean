/-
  The contracts of the document's Digits and Text of hints.
  Conditions: none.
-/
import Derived.Test.YtkjolaoajbdomaaGreatDoorHiC
import Derived.Test.YtkjolaoajbdomaaGreatDoorHsV2
namespace Go.Proofs.YtkjolaoajbdomaaGreatDoor.Hi
open Go.ChangeShapes Go.WideShapes Go.ChangeAt Go.RowKit Go.Joins By Ct Dk
set_option linter.unusedVariables false
set_option linter.unusedSimpArgs false

theorem dec10 {N : Nat} (h : N ≤ 1000000000) : (Lib.decDigits N).length ≤ 10 := dec_len 9 N (by rw [show (10 : Nat) ^ (9 + 1) = 10000000000 from by decide]; omega)
theorem dig_nat {z : Nat} (h : z < 10) : ((UInt8.ofNat (48 + z)).toNat : Int) = 48 + (z : Int) := by
  rw [(dig48 h).2]
  omega
theorem conv1 (w : World) (z : Nat) (h : z < 10) :
    (convert 28 9 (.slice (some ⟨w.heap.size, 0, none⟩) 1 1)).run Tryz.prog (w.alloc (.cells #[.int .u8 (48 + (z : Int))] 5)) = .ok (.string ⟨#[UInt8.ofNat (48 + z)]⟩) (w.alloc (.cells #[.int .u8 (48 + (z : Int))] 5)) :=
  run_convert_bytes_back (w.alloc (.cells #[.int .u8 (48 + (z : Int))] 5)) 28 9 5 ⟨w.heap.size, 0, none⟩ 1 [UInt8.ofNat (48 + z)] Tryz.underlying28 Tryz.underlying5 Tryz.underlying9 (by
    intro j hj
    obtain rfl : j = 0 := by simp at hj; omega
    have := dig_nat h
    simp [go_sem, Addr.add]
    simpa using this.symm)
set_option maxRecDepth 100000 in
set_option maxHeartbeats 4000000 in
theorem rDig_c (N : Nat) (w : World) (hN : N ≤ 1000000000) :
    Calls Tryz.prog 46 #[.int .i64 N] w fun e w' => e = .returned (.string ⟨(Lib.decDigits N).toArray⟩) ∧ Below w.heap.size w w' := by
  have f0 : decide ((N : Int) < 0) = false := decide_eq_false (by omega)
  have NL : Hid ((Lib.decDigits N).length ≤ 10) := Lib.hid (dec10 hN)
  go_enter Tryz.func46, Tryz.ntmps46
  go_wp2_with fail
  go_loopw [0, 3] (fun z s wr => ∃ (k : Nat) (l : List UInt8), k ≤ N ∧ z = .int .i64 k ∧ s = .string ⟨l.toArray⟩ ∧ Lib.decDigits N = Lib.decDigits k ++ l ∧ Below w.heap.size w wr) (fun z _ _ => (intOf z).toNat)
  case atStart => exact ⟨N, [], Nat.le_refl _, rfl, rfl, by simp, brefl w⟩
  case round =>
    obtain ⟨k, l, hk, rfl, rfl, hd, hb⟩ := hrel
    rename World => wr
    have HD := Lib.hid hd
    have HB := Lib.hid hb
    have zl : l.length ≤ 10 := by have := NL.out; rw [hd, List.length_append] at this; omega
    have z2 := ls_size l
    clear hd hb f0
    by_cases c : 10 ≤ k
    · have g1 : decide ((10 : Int) ≤ (k : Int)) = true := decide_eq_true (by omega)
      have g2 : decide ((k : Int) ≥ 10) = true := g1
      have q1 : (k : Int).tmod 10 = ((k % 10 : Nat) : Int) := by rw [Int.tmod_eq_emod_of_nonneg (by omega)]; omega
      have q2 : (k : Int).tdiv 10 = ((k / 10 : Nat) : Int) := by rw [Int.tdiv_eq_ediv_of_nonneg (by omega)]; omega
      have CV := conv1 wr (k % 10) (Nat.mod_lt _ (by omega))
      have E : Hid (Lib.decDigits N = Lib.decDigits (k / 10) ++ (UInt8.ofNat (48 + k % 10) :: l)) := Lib.hid (by
        rw [HD.out, Lib.decDigits.eq_1 k, dif_neg (by omega)]
        simp)
      have A : (⟨#[UInt8.ofNat (48 + k % 10)]⟩ : ByteArray) ++ ⟨l.toArray⟩ = ⟨(UInt8.ofNat (48 + k % 10) :: l).toArray⟩ := ls_app [_] l
      have m1 : k % 10 < 10 := Nat.mod_lt _ (by omega)
      have m2 : k / 10 ≤ N := by omega
      have m3 : k / 10 < k := by omega
      have ME := Lib.hid m3
      generalize UInt8.ofNat (48 + k % 10) = ch at *
      generalize k % 10 = r at *
      generalize k / 10 = q at *
      go_wp2_with fail
      go_roundw
      case rel => exact ⟨q, ch :: l, m2, by go_num, by first | rw [← A] | rfl, E.out, balloc HB.out _⟩
      case measure => simp [intOf]; omega
    · have g1 : decide ((10 : Int) ≤ (k : Int)) = false := decide_eq_false (by omega)
      have CV := conv1 wr k (by omega)
      have A : (⟨#[UInt8.ofNat (48 + k)]⟩ : ByteArray) ++ ⟨l.toArray⟩ = ⟨(UInt8.ofNat (48 + k) :: l).toArray⟩ := ls_app [_] l
      have E : Lib.decDigits N = UInt8.ofNat (48 + k) :: l := by
        rw [HD.out, Lib.decDigits.eq_1 k, dif_pos (by omega)]
        rfl
      rw [← E] at A
      have HA := Lib.hid A
      clear A E
      generalize UInt8.ofNat (48 + k) = ch at *
      go_wp2_with fail
      go_ret
      exact ⟨by rw [← HA.out]; rfl, balloc HB.out _⟩
set_option maxRecDepth 100000 in
set_option maxHeartbeats 4000000 in
theorem rDigits_c {n : Int} (w : World) (h : okT n = true) :
    Calls Tryz.prog 46 #[.int .i64 n] w fun e w' => e = .returned (.string ⟨(Lib.itoa n).toArray⟩) ∧ Below w.heap.size w w' := by
  have h' := okT_iff.1 h
  by_cases c : n < 0
  · have f0 : decide (n < 0) = true := decide_eq_true c
    obtain ⟨N, hN⟩ : ∃ N : Nat, -n = (N : Int) := ⟨(-n).toNat, by omega⟩
    have K := Lib.hid (rDig_c N w (by omega))
    have W : IntKind.i64.wrap (-n) = (N : Int) := by rw [hN]; exact wrap_in (by omega) (by omega)
    have W' : IntKind.i64.wrap (N : Int) = (N : Int) := wrap_in (by omega) (by omega)
    have A : (⟨#[45]⟩ : ByteArray) ++ ⟨(Lib.decDigits N).toArray⟩ = ⟨(Lib.itoa n).toArray⟩ := by
      rw [show Lib.itoa n = 45 :: Lib.decDigits N from by unfold Lib.itoa; rw [if_pos c, show n.natAbs = N by omega]]
      exact ls_app [45] _
    have Z : (⟨(Lib.decDigits N).toArray⟩ : ByteArray).size ≤ 10 := by
      rw [ls_size]
      exact dec10 (by omega)
    generalize (⟨(Lib.itoa n).toArray⟩ : ByteArray) = R at *
    generalize (⟨(Lib.decDigits N).toArray⟩ : ByteArray) = D at *
    clear h
    go_enter Tryz.func46, Tryz.ntmps46
    go_wp2_with fail
    refine K.out.mono ?_
    rintro e w1 ⟨rfl, hb⟩
    have B1 := Lib.hid hb
    clear hb K
    go_wp2_with fail
    go_ret
    exact ⟨rfl, B1.out⟩
  · obtain ⟨N, rfl⟩ : ∃ N : Nat, n = (N : Int) := ⟨n.toNat, by omega⟩
    have := rDig_c N w (by omega)
    rwa [show Lib.decDigits N = Lib.itoa (N : Int) from by unfold Lib.itoa; rw [if_neg (by omega)]; rfl] at this
set_option maxRecDepth 100000 in
theorem rText_no {n : Int} (w : World) (h : okT n = false) :
    Calls Tryz.prog 27 #[.int .i64 n] w fun e w' => e = .returned (.tuple #[.string ⟨#[]⟩, .int .i64 2]) ∧ w' = w := by
  by_cases c : n < -1000000000
  · have e1 : decide (n < -1000000000) = true := decide_eq_true c
    go_enter Tryz.func27, Tryz.ntmps27
    go_wp2_with fail
    exact bodyPost_ret (v := .tuple #[.string ⟨#[]⟩, .int .i64 2]) (by simp [results, Tryz.results27, go_sem]) rfl ⟨rfl, rfl⟩
  · have e1 : decide (n < -1000000000) = false := decide_eq_false c
    have e2 : decide (1000000000 < n) = true := decide_eq_true ((okT_not.1 h).resolve_left c)
    go_enter Tryz.func27, Tryz.ntmps27
    go_wp2_with fail
    exact bodyPost_ret (v := .tuple #[.string ⟨#[]⟩, .int .i64 2]) (by simp [results, Tryz.results27, go_sem]) rfl ⟨rfl, rfl⟩
theorem rHexOwn_c {w : World} {base : Nat} {v : Value} {l : List Nat} (h : Hs.Own w base v l) (hl : 0 < l.length) (h8 : ∀ x ∈ l, x < 256) (hn : l.length ≤ 1099511627776) :
    Calls Tryz.prog 47 #[v] w fun e w' => e = .returned (.string (Hs.bs8 (Hs.hxL (fun i => l.getD i 0) l.length))) ∧ Below w.heap.size w w' := by
  obtain ⟨g, cap, rfl, hb, B, h1, h2⟩ := h.bsC hl h8
  exact Hs.rHex_c _ _ _ _ _ hn B.2.1 (Lib.hid fun _ => ⟨g, 0, rfl, B⟩)
set_option maxRecDepth 100000 in
set_option maxHeartbeats 8000000 in
theorem rText_c {n : Int} (w : World) (h : okT n = true) :
    Calls Tryz.prog 27 #[.int .i64 n] w fun e w' => e = .returned (.tuple #[.string ⟨(txt n).toArray⟩, .int .i64 0]) ∧ Below w.heap.size w w' := by
  have h' := okT_iff.1 h
  have e1 : decide (n < -1000000000) = false := decide_eq_false (by omega)
  have e2 : decide (1000000000 < n) = false := decide_eq_false (by omega)
  have IT := Lib.hid (rDigits_c w h)
  have z1 : (⟨(Lib.itoa n).toArray⟩ : ByteArray).size ≤ 11 := by rw [ls_size]; exact (itoa_len h).1
  have D1 := hd_of n
  have z2 : (⟨(hd n).toArray⟩ : ByteArray).size ≤ 17 := by rw [ls_size, hd, List.length_append]; have := (itoa_len h).1; simp [drf]; omega
  have z3 : (⟨(sm (hd n)).toArray⟩ : ByteArray).size = 8 := by rw [ls_size, sm_len]
  have D2 := txt_of n
  obtain ⟨S1, S2⟩ := sum_of ⟨(hd n).toArray⟩
  rw [show (⟨(hd n).toArray⟩ : ByteArray).data.toList = hd n from rfl] at S1
  obtain ⟨H, hH⟩ : ∃ H, Hs.bs8 (Hs.hxL (fun i => (Hs.md5 (gn ⟨(hd n).toArray⟩) (⟨(hd n).toArray⟩ : ByteArray).size).getD i 0) 16) = H := ⟨_, rfl⟩
  rw [hH] at S1 S2
  have HTE := Lib.hid hH
  have k8 : (8 : Int) ≤ (H.size : Int) := by omega
  generalize (⟨(txt n).toArray⟩ : ByteArray) = T at *
  generalize (⟨(sm (hd n)).toArray⟩ : ByteArray) = M at *
  generalize (⟨(hd n).toArray⟩ : ByteArray) = D at *
  generalize (⟨(Lib.itoa n).toArray⟩ : ByteArray) = I at *
  clear h h' hH
  go_enter Tryz.func27, Tryz.ntmps27
  go_wp2_with fail
  refine IT.out.mono ?_
  rintro x w1 ⟨rfl, hb⟩
  have B1 := Lib.hid hb
  clear hb IT
  have CV := conv_str w1 D
  have CB := Lib.hid (conv_below w1 D)
  have CY := Lib.hid (conv_bytes w1 D)
  have GC := grownCap_ge w1 D.size 0 5
  have GD := grownCap_le_maxLen w1 D.size 0 5 (by unfold maxLen; omega)
  unfold maxLen at GD
  generalize grownCap w1 D.size 0 5 = gc at *
  generalize Lib.bytesWorld w1 5 D = w6 at *
  have MD := Lib.hid (Hs.rMD5_some w1.heap.size 0 D.size gc (gn D) w6 (by omega) CY.out)
  have B6 := Lib.hid (bstep B1.out CB.out)
  clear CY GC GD CB
  go_wp2_with fail
  refine MD.out.mono ?_
  rintro x w7 ⟨⟨vv, rfl, own⟩, hb⟩
  have H1 := rHexOwn_c own (by rw [Hs.md5_len]; omega) (Hs.ob_byte _ _ _) (by rw [Hs.md5_len]; omega)
  rw [Hs.md5_len, HTE.out] at H1
  have HX := Lib.hid H1
  have B7 := Lib.hid (bstep B6.out hb)
  clear hb own H1 MD CV
  go_wp2_with fail
  refine HX.out.mono ?_
  rintro x w8 ⟨rfl, hb⟩
  have B8 := Lib.hid (bstep B7.out hb)
  clear hb HX
  go_wp2_with fail
  exact bodyPost_ret (v := .tuple #[.string T, .int .i64 0]) (by simp [results, Tryz.results27, go_sem]) rfl ⟨rfl, B8.out⟩
end Go.Proofs.YtkjolaoajbdomaaGreatDoor.Hi
