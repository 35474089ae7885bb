/-
  The contract of sundialref05.cipher.
  Conditions: round keys and a block are handed in.
-/
import Derived.Test.YtfefkakdhaecpaaAeD
import Derived.Test.YtfefkakdhaecpaaAeO
namespace Go.Proofs.Ytfefkakdhaecpaa.Ae
open Go.RowKit By
set_option linter.unusedVariables false
set_option linter.unusedSimpArgs false

theorem bs_eq {w : World} {b o n : Nat} {f g : Nat → Nat} (h : Bs w b o n f) (e : ∀ i, i < n → f i = g i) (hg : ∀ i, g i < 256) : Bs w b o n g :=
  ⟨h.1, hg, fun i hi => by rw [← e i hi]; exact h.2.2 i hi⟩
/-- the block behind r rounds, the last one left out, for rows of bytes whatever. -/
theorem cip_all {W B : Nat → Nat} (hW : ∀ i, W i < 256) (hB : ∀ i, B i < 256) : ∀ r i, cip W B r i < 256
  | 0, i => lt_xor8 (hB i) (hW i)
  | r + 1, i => lt_xor8 (mx_lt (mv_lt _) i) (hW _)

set_option maxRecDepth 100000 in
set_option maxHeartbeats 4000000 in
theorem rcipher_c (b o n cap b2 o2 cap2 : Nat) (W B : Nat → Nat) (w : World) (HW : Bs w b o n W) (hn : n = 176) (hc : 176 ≤ cap) (hm : cap ≤ 9223372036854775807) (HB : Bs w b2 o2 16 B) :
    Calls Try.prog 19 #[.slice (some ⟨b, o, none⟩) n cap, .slice (some ⟨b2, o2, none⟩) 16 cap2] w fun e w' => (∃ v, e = .returned v ∧ Own w' w.heap.size v (bl (enc W B) 16)) ∧ Below w.heap.size w w' := by
  subst hn
  have WL := Lib.hid HW.2.1
  have BL := Lib.hid HB.2.1
  have W0 := Lib.hid HW
  have CX := Lib.hid (fun cp => rxor_c b2 o2 16 cap2 b o 16 cp B W w HB (by
    have := HW.part 0 16 (by omega)
    rw [Nat.add_zero] at this
    exact bs_eq this (fun i _ => by rw [Nat.zero_add]) HW.2.1) (by omega) (by omega) (by omega) (by omega))
  clear HW HB
  have i1 : (176 : Int) ≤ (cap : Int) := by omega
  have i2 : (16 : Int) ≤ (cap : Int) := by omega
  have i3 : (cap : Int) ≤ 9223372036854775807 := by omega
  go_enter Try.func19, Try.ntmps19
  go_wp2_with fail
  refine (CX.out _).mono ?_
  rintro e w1 ⟨⟨s, rfl, own⟩, hb⟩
  have O1 : Hid (Own w1 w.heap.size s (bl (cip W B 0) 16)) := Lib.hid own
  have B1 := Lib.hid hb
  clear own hb CX
  go_wp2_with fail
  go_loopw [5, 6] (fun v i wr => ∃ r m : Nat, m = r + 1 ∧ m ≤ 11 ∧ i = .int .i64 m ∧ Own wr w.heap.size v (bl (if r < 10 then cip W B r else enc W B) 16) ∧ Below w.heap.size w wr) (fun _ i _ => 11 - (intOf i).toNat)
  case atStart => exact ⟨0, 1, rfl, by omega, rfl, O1.out, B1.out⟩
  case round =>
    obtain ⟨r, m, hm0, hk, rfl, own, hb⟩ := hrel
    rename World => wr
    have HM := Lib.hid hm0
    have OW := Lib.hid own
    have B0 := Lib.hid hb
    have SZ := hb.size
    clear own hb O1 B1 hm0
    by_cases c : m ≤ 10
    · have e0 : decide ((m : Int) ≤ 10) = true := by rw [decide_eq_true_iff]; omega
      have r10 : r < 10 := by have := HM.out; omega
      have OWG := OW.out
      rw [if_pos r10] at OWG
      have GL := Lib.hid (cip_all WL.out BL.out r)
      have NX : Hid (∀ i, (if r + 1 < 10 then cip W B (r + 1) else enc W B) i = xr (if m < 10 then mx (mv (cip W B r)) else mv (cip W B r)) (fun i => W (16 * m + i)) i) := Lib.hid (fun i => by
        by_cases c1 : m < 10
        · rw [if_pos (by have := HM.out; omega), if_pos c1, cip_succ, HM.out]
        · have h9 : r = 9 := by have := HM.out; omega
          have h10 : m = 10 := by omega
          subst h9 h10
          rfl)
      generalize cip W B r = G at *
      obtain ⟨g, cp, rfl, hg, BS, h1, h2⟩ := OWG.bsF (fun e => by
        subst e
        rcases OWG.2 with ⟨_, h0⟩ | ⟨g, cap, cur, e, _⟩
        · rw [bl_len] at h0; omega
        · cases e) GL.out
      have MV := Lib.hid (rmoved_c g 0 16 cp G wr BS (by omega) (by omega))
      clear OW OWG BS
      have m0 : (0 : Int) ≤ (m : Int) := by omega
      have m1 : (m : Int) ≤ 10 := by omega
      have MVL := Lib.hid (mv_lt G)
      go_wp2_with fail
      refine MV.out.mono ?_
      rintro e w2 ⟨⟨s2, rfl, own2⟩, hb2⟩
      have C2 := Lib.hid (B0.out.trans (hb2.mono SZ))
      have SZ2 := C2.out.size
      obtain ⟨g2, cp2, rfl, hg2, BS2, h3, h4⟩ := OwnB own2 (by omega) MVL.out
      have BH2 := Lib.hid BS2
      clear own2 hb2 MV BS2
      have KW : Hid (∀ w', Below w.heap.size w w' → Bs w' b (o + 16 * m) 16 (fun i => W (16 * m + i))) := Lib.hid (fun w' k => (W0.out.below k).part (16 * m) 16 (by omega))
      have j1 : 16 * (m : Int) + 16 ≤ (cap : Int) := by omega
      have j2 : 16 * (m : Int) < (cap : Int) := by omega
      have j3 : 16 * (m : Int) ≤ 16 * (m : Int) + 16 := by omega
      have j4 : (16 * (m : Int) + 16).toNat = 16 * m + 16 := by omega
      have j5 : (16 * (m : Int)).toNat = 16 * m := by omega
      have j6 : (0 : Int) ≤ 16 * (m : Int) := by omega
      have j7 : ¬ cap = 16 * m := by omega
      have j8 : (0 : Int) ≤ 16 * (m : Int) + 16 := by omega
      by_cases c1 : m < 10
      · have e1 : decide ((m : Int) < 10) = true := by rw [decide_eq_true_iff]; omega
        rw [if_pos c1] at NX
        have MX := Lib.hid (rmixed_c g2 0 16 cp2 (mv G) w2 BH2.out (by omega) (by omega))
        have MXL := Lib.hid (mx_lt MVL.out)
        go_wp2_with fail
        refine MX.out.mono ?_
        rintro e w3 ⟨⟨s3, rfl, own3⟩, hb3⟩
        have C3 := Lib.hid (C2.out.trans (hb3.mono SZ2))
        have SZ3 := C3.out.size
        obtain ⟨g3, cp3, rfl, hg3, BS3, h5, h6⟩ := OwnB own3 (by omega) MXL.out
        have XC := Lib.hid (fun k' => rxor_c g3 0 16 cp3 b (o + 16 * m) 16 k' (mx (mv G)) (fun i => W (16 * m + i)) w3 BS3 (KW.out w3 C3.out) (by omega) (by omega) (by omega) (by omega))
        clear own3 hb3 MX BS3
        go_wp2_with fail
        refine (XC.out _).mono ?_
        rintro e w4 ⟨⟨s4, rfl, own4⟩, hb4⟩
        have C4 := Lib.hid (C3.out.trans (hb4.mono SZ3))
        have O4 : Hid (Own w4 w.heap.size s4 (bl (if r + 1 < 10 then cip W B (r + 1) else enc W B) 16)) := Lib.hid (by rw [funext NX.out]; exact own4.le SZ3)
        clear own4 hb4 XC
        go_wp2_with fail
        go_roundw
        case rel => exact ⟨r + 1, m + 1, by rw [HM.out], by omega, by go_num, O4.out, C4.out⟩
        case measure => simp [intOf]; omega
      · have e1 : decide ((m : Int) < 10) = false := by rw [decide_eq_false_iff_not]; omega
        rw [if_neg c1] at NX
        have XC := Lib.hid (fun k' => rxor_c g2 0 16 cp2 b (o + 16 * m) 16 k' (mv G) (fun i => W (16 * m + i)) w2 BH2.out (KW.out w2 C2.out) (by omega) (by omega) (by omega) (by omega))
        go_wp2_with fail
        refine (XC.out _).mono ?_
        rintro e w4 ⟨⟨s4, rfl, own4⟩, hb4⟩
        have C4 := Lib.hid (C2.out.trans (hb4.mono SZ2))
        have O4 : Hid (Own w4 w.heap.size s4 (bl (if r + 1 < 10 then cip W B (r + 1) else enc W B) 16)) := Lib.hid (by rw [funext NX.out]; exact own4.le SZ2)
        clear own4 hb4 XC
        go_wp2_with fail
        go_roundw
        case rel => exact ⟨r + 1, m + 1, by rw [HM.out], by omega, by go_num, O4.out, C4.out⟩
        case measure => simp [intOf]; omega
    · have e0 : decide ((m : Int) ≤ 10) = false := by rw [decide_eq_false_iff_not]; omega
      have r10 : ¬ r < 10 := by have := HM.out; omega
      have OE := OW.out
      rw [if_neg r10] at OE
      have HO := Lib.hid OE
      clear OE OW
      go_wp2_with fail
      go_ret
      exact ⟨⟨_, rfl, HO.out⟩, B0.out⟩
end Go.Proofs.Ytfefkakdhaecpaa.Ae
