/-
  A tag in numbers; the contract of aes.CMAC.
  Conditions: a key of sixteen bytes and a row of bytes are handed in.
-/
import Derived.Test.YtfefkakdhaecpaaAeR
namespace Go.Proofs.Ytfefkakdhaecpaa.Ae
open Go.RowKit By
set_option linter.unusedVariables false
set_option linter.unusedSimpArgs false

/-- the chain behind t blocks. -/
def cs (W M : Nat → Nat) : Nat → Nat → Nat
  | 0 => fun _ => 0
  | t + 1 => enc W (xr (cs W M t) (fun i => M (16 * t + i)))
theorem cs_zero (W M : Nat → Nat) : cs W M 0 = fun _ => 0 := rfl
theorem cs_succ (W M : Nat → Nat) (t : Nat) : cs W M (t + 1) = enc W (xr (cs W M t) (fun i => M (16 * t + i))) := rfl
/-- the tag of n bytes. -/
def tg (W M : Nat → Nat) (n : Nat) : Nat → Nat := enc W (xr (cs W M ((n - 1) / 16)) (lbk W (fun i => M (16 * ((n - 1) / 16) + i)) (n - 16 * ((n - 1) / 16))))
theorem cs_lt {W M : Nat → Nat} (hW : ∀ i, i < 176 → W i < 256) : ∀ t i, i < 16 → cs W M t i < 256
  | 0, _, _ => by show 0 < 256; omega
  | t + 1, i, hi => enc_lt hW i hi

set_option maxRecDepth 100000 in
set_option maxHeartbeats 4000000 in
theorem CMAC_c (p p2 : Option Addr) (n cap cap2 : Nat) (K M : Nat → Nat) (w : World) (S1 : Sl w p 16 K) (S2 : Sl w p2 n M) (hK : ∀ i, i < 16 → K i < 256) (hM : ∀ i, M i < 256) (hc : n ≤ cap2) (hm : cap2 ≤ 9223372036854775807) :
    Calls Try.prog 12 #[.slice p 16 cap, .slice p2 n cap2] w fun e w' => ∃ g, e = .returned (.tuple #[.slice (some ⟨g, 0, none⟩) 16 16, .int .i64 0]) ∧ w.heap.size ≤ g ∧ Ay w' g 0 16 (tg (kW K) M n) ∧ Below w.heap.size w w' := by
  have NC := Lib.hid (newCipher_c p cap K w S1 hK)
  obtain ⟨b0, off, HP, HS⟩ : ∃ b0 off, Hid (0 < n → p2 = some ⟨b0, off, none⟩) ∧ Hid (0 < n → Bs w b0 off n M) := by
    by_cases c : 0 < n
    · obtain ⟨b0, off, hp, B⟩ := S2 c
      exact ⟨b0, off, Lib.hid (fun _ => hp), Lib.hid (fun _ => B)⟩
    · exact ⟨0, 0, Lib.hid (fun h => absurd h c), Lib.hid (fun h => absurd h c)⟩
  have HM := Lib.hid hM
  have WL := Lib.hid (kW_lt hK)
  clear S1 S2 hK hM
  go_enter Try.func12, Try.ntmps12
  go_wp2_with fail
  refine NC.out.mono ?_
  rintro e w1 ⟨b, rfl, hg, ci, hb1⟩
  have CL : b < w1.heap.size := ci.1.1
  have BA := Lib.hid (balloc (brefl w1) (.cells #[.int .u8 0, .int .u8 0, .int .u8 0, .int .u8 0, .int .u8 0, .int .u8 0, .int .u8 0, .int .u8 0, .int .u8 0, .int .u8 0, .int .u8 0, .int .u8 0, .int .u8 0, .int .u8 0, .int .u8 0, .int .u8 0] 38))
  have CI := Lib.hid (ci.below BA.out)
  have T0 : Hid (Ay (w1.alloc (.cells #[.int .u8 0, .int .u8 0, .int .u8 0, .int .u8 0, .int .u8 0, .int .u8 0, .int .u8 0, .int .u8 0, .int .u8 0, .int .u8 0, .int .u8 0, .int .u8 0, .int .u8 0, .int .u8 0, .int .u8 0, .int .u8 0] 38)) w1.heap.size 0 16 (cs (kW K) M 0)) := Lib.hid (Ay.new0 w1 16 38)
  have B1 := Lib.hid hb1
  have HS1 : Hid (0 < n → Bs (w1.alloc (.cells #[.int .u8 0, .int .u8 0, .int .u8 0, .int .u8 0, .int .u8 0, .int .u8 0, .int .u8 0, .int .u8 0, .int .u8 0, .int .u8 0, .int .u8 0, .int .u8 0, .int .u8 0, .int .u8 0, .int .u8 0, .int .u8 0] 38)) b0 off n M) := Lib.hid (fun h => ((HS.out h).below hb1).below BA.out)
  have LB := hb1.size
  have L0 : Hid (0 < n → b0 < w1.heap.size) := Lib.hid (fun h => ((HS.out h).below hb1).1)
  clear ci hb1 NC HS
  go_wp2_with fail
  generalize w1.alloc (.cells #[.int .u8 0, .int .u8 0, .int .u8 0, .int .u8 0, .int .u8 0, .int .u8 0, .int .u8 0, .int .u8 0, .int .u8 0, .int .u8 0, .int .u8 0, .int .u8 0, .int .u8 0, .int .u8 0, .int .u8 0, .int .u8 0] 38) = W1 at *
  have BX := Lib.hid (B1.out.trans (BA.out.mono LB))
  clear B1
  generalize hg7 : w1.heap.size = g7 at *
  go_loopw [1] (fun v wr => ∃ t k c o, ∃ q : Option Addr, k + 16 * t = n ∧ o = off + 16 * t ∧ (t = 0 ∨ 0 < k) ∧ v = .slice q k c ∧ k ≤ c ∧ c ≤ 9223372036854775807 ∧ (0 < k → q = some ⟨b0, o, none⟩) ∧ Ay wr g7 0 16 (cs (kW K) M t) ∧ Below g7 W1 wr) (fun v _ => sl v)
  case atStart => exact ⟨0, n, cap2, off, p2, by omega, by omega, .inl rfl, rfl, hc, hm, HP.out, T0.out, Below.refl _ _⟩
  case round =>
    clear T0 HP
    obtain ⟨t, k, c, o, q, hkn, ho, ht, rfl, hkc, hcm, hq, tr, hb⟩ := hrel
    rename World => wr
    have HKN := Lib.hid hkn
    have HO := Lib.hid ho
    have HT := Lib.hid ht
    have HQ := Lib.hid hq
    have TT := Lib.hid tr
    have BB := Lib.hid hb
    have CC : Hid (Ci wr b (kW K)) := Lib.hid ⟨CI.out.1.belowB CL hb, CI.out.2.belowB CL hb⟩
    have HSW : Hid (0 < k → Bs wr b0 o k (fun i => M (16 * t + i))) := Lib.hid (fun h => by
      have B := ((HS1.out (by omega)).belowB (L0.out (by omega)) hb).part (16 * t) k (by omega)
      rwa [← ho] at B)
    have SZ := tr.1
    clear hkn ho ht hq tr hb
    have CSL := Lib.hid (fun i hi => cs_lt (M := M) WL.out t i hi)
    have ML : Hid (∀ i, (fun i => M (16 * t + i)) i < 256) := Lib.hid (fun i => HM.out _)
    by_cases c16 : 16 < k
    · have e0 : decide ((16 : Int) < (k : Int)) = true := by rw [decide_eq_true_iff]; omega
      obtain rfl := HQ.out (by omega)
      have NX : Hid (cs (kW K) M (t + 1) = enc (kW K) (xr (cs (kW K) M t) (fun i => M (16 * t + i)))) := Lib.hid (cs_succ _ _ _)
      have TRA : Hid (wr.drew.rangeAt g7 0 (ac (cs (kW K) M t) 16)) := Lib.hid (TT.out.below (bdrew1 _ _)).range
      obtain ⟨F, hF⟩ : ∃ F : Nat → Nat, F = fun i => M (16 * t + i) := ⟨_, rfl⟩
      rw [← hF] at HSW ML NX
      clear hF
      have EL := Lib.hid (fun i hi => enc_lt (B := xr (cs (kW K) M t) F) WL.out i hi)
      generalize cs (kW K) M t = G at *
      have SF : Hid (Sl wr.drew (some ⟨b0, o, none⟩) 16 F) := Lib.hid (fun _ => ⟨b0, o, rfl, by
        have B := ((HSW.out (by omega)).below (bdrew1 _ _)).part 0 16 (by omega)
        rw [Nat.add_zero] at B
        exact ⟨B.1, ML.out, fun i hi => by have := B.2.2 i hi; simp only [Nat.zero_add] at this; exact this⟩⟩)
      have TB := Lib.hid (fun w (S : Sl w (some ⟨b0, o, none⟩) 16 F) => toBlock_c (some ⟨b0, o, none⟩) 16 c F w S (Nat.le_refl _) (fun i _ => ML.out i))
      have PE : Hid (ac (pad0 F 16) 16 = ac F 16) := Lib.hid (ac_eq (fun i hi => by unfold pad0; rw [if_pos hi]))
      rw [PE.out] at TB
      have PL := Lib.hid (fun w => plus_c G F w CSL.out (fun i _ => ML.out i))
      have EC := Lib.hid (fun w (C : Ci w b (kW K)) => encipher_c b (kW K) (xr G F) w C (fun i hi => lt_xor8 (CSL.out i hi) (ML.out i)))
      have k0 : (16 : Int) < (k : Int) := by omega
      have k1 : (k : Int) ≤ (c : Int) := by omega
      have k2 : (c : Int) ≤ 9223372036854775807 := by omega
      have k3 : (16 : Int) ≤ (c : Int) := by omega
      have k4 : (16 : Int) ≤ (k : Int) := by omega
      have k5 : (16 : Int) < (c : Int) := by omega
      have k6 : ¬ c = 16 := by omega
      go_wp2_with fail
      refine wp_region_noPanic ?_
      refine wp_region_held_drew (S := fun _ => True) (by kernel_rfl) trivial (fun hHeld => ?_)
      refine wpAnyH_take (i := 0) (v := ?_) rfl (by kernel_rfl) (by kernel_rfl) (by kernel_rfl) (fun _ _ _ h => h) (Or.inl ⟨by rfl, ?_⟩) hHeld ?_
      rotate_left
      · ((intro w _; go_simp); try with_reducible rfl)
      (try simp only [List.getElem_toArray, List.getElem_cons_succ, List.getElem_cons_zero, Act.put, List.setIfInBounds_toArray, List.set_cons_zero, List.set_cons_succ])
      refine wpAnyH_take (i := 2) (v := ?_) rfl (by kernel_rfl) (by kernel_rfl) (by kernel_rfl) (fun _ _ _ h => h) (Or.inl ⟨by rfl, ?_⟩) hHeld ?_
      rotate_left
      · ((intro w _; go_simp); try with_reducible rfl)
      (try simp only [List.getElem_toArray, List.getElem_cons_succ, List.getElem_cons_zero, Act.put, List.setIfInBounds_toArray, List.set_cons_zero, List.set_cons_succ])
      refine wpAnyH_take (i := 3) (v := ?_) rfl (by kernel_rfl) (by kernel_rfl) (by kernel_rfl) (fun _ _ _ h => h) (Or.inl ⟨by rfl, ?_⟩) hHeld ?_
      rotate_left
      · ((intro w _; go_simp); try with_reducible rfl)
      (try simp only [List.getElem_toArray, List.getElem_cons_succ, List.getElem_cons_zero, Act.put, List.setIfInBounds_toArray, List.set_cons_zero, List.set_cons_succ])
      refine wpAnyH_ready (rs := [1, 4]) (by kernel_rfl) (by simp) (AllReadyH.cons rfl (fun KQ hKQ => ?_) (AllReadyH.cons rfl (fun KQ hKQ => ?_) AllReadyH.nil))
      · rw [if_pos (by rfl)]
        refine wp_load_mid _ _ rfl _ _ rfl _ _ TRA.out Try.underlying38 rfl (by rw [ac_len]; exact info_blk) ?_
        refine hKQ.out _ _ trivial (fun _ => ?_)
        clear hKQ KQ
        (try simp only [List.getElem_toArray, List.getElem_cons_succ, List.getElem_cons_zero, Act.put, List.setIfInBounds_toArray, List.set_cons_zero, List.set_cons_succ])
        refine wpAnyH_ready (rs := [4]) (by kernel_rfl) (by simp) (AllReadyH.cons rfl (fun KQ hKQ => ?_) AllReadyH.nil)
        go_simp
        refine (TB.out _ SF.out).mono ?_
        rintro e w' ⟨rfl, hb⟩
        have H1 := Lib.hid ((bdrew1 wr.heap.size wr).trans hb)
        clear hb
        go_wp2_with fail
        refine hKQ.out _ _ trivial (fun _ => ?_)
        clear hKQ KQ
        (try simp only [List.getElem_toArray, List.getElem_cons_succ, List.getElem_cons_zero, Act.put, List.setIfInBounds_toArray, List.set_cons_zero, List.set_cons_succ])
        refine wpAnyH_ready (rs := [5]) (by kernel_rfl) (by simp) (AllReadyH.cons rfl (fun KQ hKQ => ?_) AllReadyH.nil)
        go_simp
        refine (PL.out _).mono ?_
        rintro e w' ⟨rfl, hb⟩
        have H2 := Lib.hid (H1.out.trans (hb.mono H1.out.size))
        clear hb
        go_wp2_with fail
        refine hKQ.out _ _ trivial (fun _ => ?_)
        clear hKQ KQ
        (try simp only [List.getElem_toArray, List.getElem_cons_succ, List.getElem_cons_zero, Act.put, List.setIfInBounds_toArray, List.set_cons_zero, List.set_cons_succ])
        refine wpAnyH_ready (rs := [6]) (by kernel_rfl) (by simp) (AllReadyH.cons rfl (fun KQ hKQ => ?_) AllReadyH.nil)
        go_simp
        refine (EC.out _ (CC.out.below H2.out)).mono ?_
        rintro e w' ⟨rfl, hb⟩
        have H3 := Lib.hid (H2.out.trans (hb.mono H2.out.size))
        clear hb
        go_wp2_with fail
        refine hKQ.out _ _ trivial (fun _ => ?_)
        clear hKQ KQ
        (try simp only [List.getElem_toArray, List.getElem_cons_succ, List.getElem_cons_zero, Act.put, List.setIfInBounds_toArray, List.set_cons_zero, List.set_cons_succ])
        refine wpAnyH_ready (rs := [7]) (by kernel_rfl) (by simp) (AllReadyH.cons rfl (fun KQ hKQ => ?_) AllReadyH.nil)
        rw [if_pos (by rfl)]
        refine wp_store_mid _ _ _ rfl _ _ (ac (enc (kW K) (xr G F)) 16).toArray rfl rfl (by rw [ac_size]; exact (TT.out.below H3.out).there) (by rw [ac_size]; exact info_blk) (ac_one _ 16) ?_
        rw [List.toList_toArray]
        refine hKQ.out _ _ trivial (fun _ => ?_)
        clear hKQ KQ
        (try simp only [List.getElem_toArray, List.getElem_cons_succ, List.getElem_cons_zero, Act.put, List.setIfInBounds_toArray, List.set_cons_zero, List.set_cons_succ])
        refine wpAnyH_done (by kernel_rfl) ?_ _
        refine NoPanic.normal ?_
        have N1 := Lib.hid (Ay.mk_cells (TT.out.below H3.out).1 (TT.out.below H3.out).there EL.out)
        have N2 := Lib.hid (BB.out.trans (belowCells (B := g7) g7 (Nat.le_refl _) (ac (enc (kW K) (xr G F)) 16) 0 _ (H3.out.mono (Nat.le_of_lt SZ))))
        clear H1 H2 H3 TRA SF TB PL EC
        go_wp2_with fail
        go_roundw
        case rel => exact ⟨t + 1, k - 16, c - 16, o + 16, _, by have := HKN.out; omega, by have := HO.out; omega, .inr (by omega), rfl, by omega, by omega, fun _ => rfl, by rw [NX.out]; exact N1.out, N2.out⟩
        case measure => simp [sl]; omega
      · go_simp
        refine (TB.out _ SF.out).mono ?_
        rintro e w' ⟨rfl, hb⟩
        have H1 := Lib.hid ((bdrew1 wr.heap.size wr).trans hb)
        clear hb
        go_wp2_with fail
        refine hKQ.out _ _ trivial (fun _ => ?_)
        clear hKQ KQ
        (try simp only [List.getElem_toArray, List.getElem_cons_succ, List.getElem_cons_zero, Act.put, List.setIfInBounds_toArray, List.set_cons_zero, List.set_cons_succ])
        refine wpAnyH_ready (rs := [1]) (by kernel_rfl) (by simp) (AllReadyH.cons rfl (fun KQ hKQ => ?_) AllReadyH.nil)
        rw [if_pos (by rfl)]
        refine wp_load_mid _ _ rfl _ _ rfl _ _ (TT.out.below H1.out).range Try.underlying38 rfl (by rw [ac_len]; exact info_blk) ?_
        refine hKQ.out _ _ trivial (fun _ => ?_)
        clear hKQ KQ
        (try simp only [List.getElem_toArray, List.getElem_cons_succ, List.getElem_cons_zero, Act.put, List.setIfInBounds_toArray, List.set_cons_zero, List.set_cons_succ])
        refine wpAnyH_ready (rs := [5]) (by kernel_rfl) (by simp) (AllReadyH.cons rfl (fun KQ hKQ => ?_) AllReadyH.nil)
        go_simp
        refine (PL.out _).mono ?_
        rintro e w' ⟨rfl, hb⟩
        have H2 := Lib.hid (H1.out.trans (hb.mono H1.out.size))
        clear hb
        go_wp2_with fail
        refine hKQ.out _ _ trivial (fun _ => ?_)
        clear hKQ KQ
        (try simp only [List.getElem_toArray, List.getElem_cons_succ, List.getElem_cons_zero, Act.put, List.setIfInBounds_toArray, List.set_cons_zero, List.set_cons_succ])
        refine wpAnyH_ready (rs := [6]) (by kernel_rfl) (by simp) (AllReadyH.cons rfl (fun KQ hKQ => ?_) AllReadyH.nil)
        go_simp
        refine (EC.out _ (CC.out.below H2.out)).mono ?_
        rintro e w' ⟨rfl, hb⟩
        have H3 := Lib.hid (H2.out.trans (hb.mono H2.out.size))
        clear hb
        go_wp2_with fail
        refine hKQ.out _ _ trivial (fun _ => ?_)
        clear hKQ KQ
        (try simp only [List.getElem_toArray, List.getElem_cons_succ, List.getElem_cons_zero, Act.put, List.setIfInBounds_toArray, List.set_cons_zero, List.set_cons_succ])
        refine wpAnyH_ready (rs := [7]) (by kernel_rfl) (by simp) (AllReadyH.cons rfl (fun KQ hKQ => ?_) AllReadyH.nil)
        rw [if_pos (by rfl)]
        refine wp_store_mid _ _ _ rfl _ _ (ac (enc (kW K) (xr G F)) 16).toArray rfl rfl (by rw [ac_size]; exact (TT.out.below H3.out).there) (by rw [ac_size]; exact info_blk) (ac_one _ 16) ?_
        rw [List.toList_toArray]
        refine hKQ.out _ _ trivial (fun _ => ?_)
        clear hKQ KQ
        (try simp only [List.getElem_toArray, List.getElem_cons_succ, List.getElem_cons_zero, Act.put, List.setIfInBounds_toArray, List.set_cons_zero, List.set_cons_succ])
        refine wpAnyH_done (by kernel_rfl) ?_ _
        refine NoPanic.normal ?_
        have N1 := Lib.hid (Ay.mk_cells (TT.out.below H3.out).1 (TT.out.below H3.out).there EL.out)
        have N2 := Lib.hid (BB.out.trans (belowCells (B := g7) g7 (Nat.le_refl _) (ac (enc (kW K) (xr G F)) 16) 0 _ (H3.out.mono (Nat.le_of_lt SZ))))
        clear H1 H2 H3 TRA SF TB PL EC
        go_wp2_with fail
        go_roundw
        case rel => exact ⟨t + 1, k - 16, c - 16, o + 16, _, by have := HKN.out; omega, by have := HO.out; omega, .inr (by omega), rfl, by omega, by omega, fun _ => rfl, by rw [NX.out]; exact N1.out, N2.out⟩
        case measure => simp [sl]; omega
    · have e0 : decide ((16 : Int) < (k : Int)) = false := by rw [decide_eq_false_iff_not]; omega
      have TE : Hid (t = (n - 1) / 16) := Lib.hid (by have := HKN.out; have := HT.out; omega)
      have KE : Hid (k = n - 16 * ((n - 1) / 16)) := Lib.hid (by have := HKN.out; have := TE.out; omega)
      have GE : Hid (tg (kW K) M n = enc (kW K) (xr (cs (kW K) M t) (lbk (kW K) (fun i => M (16 * t + i)) k))) := Lib.hid (by rw [KE.out, TE.out]; rfl)
      have TRA : Hid (wr.drew.rangeAt g7 0 (ac (cs (kW K) M t) 16)) := Lib.hid (TT.out.below (bdrew1 _ _)).range
      obtain ⟨F, hF⟩ : ∃ F : Nat → Nat, F = fun i => M (16 * t + i) := ⟨_, rfl⟩
      rw [← hF] at HSW ML GE
      clear hF TE KE
      have EL := Lib.hid (fun i hi => enc_lt (B := xr (cs (kW K) M t) (lbk (kW K) F k)) WL.out i hi)
      generalize cs (kW K) M t = G at *
      have SF : Hid (Sl wr.drew q k F) := Lib.hid (fun h => ⟨b0, o, HQ.out h, (HSW.out h).below (bdrew1 _ _)⟩)
      have LBL := Lib.hid (fun i hi => lbk_lt (n := k) WL.out (fun j (_ : j < k) => ML.out j) i hi)
      have TB := Lib.hid (fun w (C : Ci w b (kW K)) (S : Sl w q k F) => lastBlock_c b (kW K) F q k c w C S (by omega) (fun i _ => ML.out i))
      have PL := Lib.hid (fun w => plus_c G (lbk (kW K) F k) w CSL.out LBL.out)
      have EC := Lib.hid (fun w (C : Ci w b (kW K)) => encipher_c b (kW K) (xr G (lbk (kW K) F k)) w C (fun i hi => lt_xor8 (CSL.out i hi) (LBL.out i hi)))
      rw [← GE.out] at EC EL
      go_wp2_with fail
      refine wp_region_noPanic ?_
      refine wp_region_held_drew (S := fun _ => True) (by kernel_rfl) trivial (fun hHeld => ?_)
      refine wpAnyH_take (i := 0) (v := ?_) rfl (by kernel_rfl) (by kernel_rfl) (by kernel_rfl) (fun _ _ _ h => h) (Or.inl ⟨by rfl, ?_⟩) hHeld ?_
      rotate_left
      · ((intro w _; go_simp); try with_reducible rfl)
      (try simp only [List.getElem_toArray, List.getElem_cons_succ, List.getElem_cons_zero, Act.put, List.setIfInBounds_toArray, List.set_cons_zero, List.set_cons_succ])
      refine wpAnyH_take (i := 2) (v := ?_) rfl (by kernel_rfl) (by kernel_rfl) (by kernel_rfl) (fun _ _ _ h => h) (Or.inl ⟨by rfl, ?_⟩) hHeld ?_
      rotate_left
      · ((intro w _; go_simp); try with_reducible rfl)
      (try simp only [List.getElem_toArray, List.getElem_cons_succ, List.getElem_cons_zero, Act.put, List.setIfInBounds_toArray, List.set_cons_zero, List.set_cons_succ])
      refine wpAnyH_take (i := 3) (v := ?_) rfl (by kernel_rfl) (by kernel_rfl) (by kernel_rfl) (fun _ _ _ h => h) (Or.inl ⟨by rfl, ?_⟩) hHeld ?_
      rotate_left
      · ((intro w _; go_simp); try with_reducible rfl)
      (try simp only [List.getElem_toArray, List.getElem_cons_succ, List.getElem_cons_zero, Act.put, List.setIfInBounds_toArray, List.set_cons_zero, List.set_cons_succ])
      refine wpAnyH_ready (rs := [1, 4]) (by kernel_rfl) (by simp) (AllReadyH.cons rfl (fun KQ hKQ => ?_) (AllReadyH.cons rfl (fun KQ hKQ => ?_) AllReadyH.nil))
      · rw [if_pos (by rfl)]
        refine wp_load_mid _ _ rfl _ _ rfl _ _ TRA.out Try.underlying38 rfl (by rw [ac_len]; exact info_blk) ?_
        refine hKQ.out _ _ trivial (fun _ => ?_)
        clear hKQ KQ
        (try simp only [List.getElem_toArray, List.getElem_cons_succ, List.getElem_cons_zero, Act.put, List.setIfInBounds_toArray, List.set_cons_zero, List.set_cons_succ])
        refine wpAnyH_ready (rs := [4]) (by kernel_rfl) (by simp) (AllReadyH.cons rfl (fun KQ hKQ => ?_) AllReadyH.nil)
        go_simp
        refine (TB.out _ (CC.out.below (bdrew1 _ _)) SF.out).mono ?_
        rintro e w' ⟨rfl, hb⟩
        have H1 := Lib.hid ((bdrew1 wr.heap.size wr).trans hb)
        clear hb
        go_wp2_with fail
        refine hKQ.out _ _ trivial (fun _ => ?_)
        clear hKQ KQ
        (try simp only [List.getElem_toArray, List.getElem_cons_succ, List.getElem_cons_zero, Act.put, List.setIfInBounds_toArray, List.set_cons_zero, List.set_cons_succ])
        refine wpAnyH_ready (rs := [5]) (by kernel_rfl) (by simp) (AllReadyH.cons rfl (fun KQ hKQ => ?_) AllReadyH.nil)
        go_simp
        refine (PL.out _).mono ?_
        rintro e w' ⟨rfl, hb⟩
        have H2 := Lib.hid (H1.out.trans (hb.mono H1.out.size))
        clear hb
        go_wp2_with fail
        refine hKQ.out _ _ trivial (fun _ => ?_)
        clear hKQ KQ
        (try simp only [List.getElem_toArray, List.getElem_cons_succ, List.getElem_cons_zero, Act.put, List.setIfInBounds_toArray, List.set_cons_zero, List.set_cons_succ])
        refine wpAnyH_ready (rs := [6]) (by kernel_rfl) (by simp) (AllReadyH.cons rfl (fun KQ hKQ => ?_) AllReadyH.nil)
        go_simp
        refine (EC.out _ (CC.out.below H2.out)).mono ?_
        rintro e w' ⟨rfl, hb⟩
        have H3 := Lib.hid (H2.out.trans (hb.mono H2.out.size))
        clear hb
        go_wp2_with fail
        refine hKQ.out _ _ trivial (fun _ => ?_)
        clear hKQ KQ
        (try simp only [List.getElem_toArray, List.getElem_cons_succ, List.getElem_cons_zero, Act.put, List.setIfInBounds_toArray, List.set_cons_zero, List.set_cons_succ])
        refine wpAnyH_ready (rs := [7]) (by kernel_rfl) (by simp) (AllReadyH.cons rfl (fun KQ hKQ => ?_) AllReadyH.nil)
        rw [if_pos (by rfl)]
        refine wp_store_mid _ _ _ rfl _ _ (ac (tg (kW K) M n) 16).toArray rfl rfl (by rw [ac_size]; exact (TT.out.below H3.out).there) (by rw [ac_size]; exact info_blk) (ac_one _ 16) ?_
        rw [List.toList_toArray]
        refine hKQ.out _ _ trivial (fun _ => ?_)
        clear hKQ KQ
        (try simp only [List.getElem_toArray, List.getElem_cons_succ, List.getElem_cons_zero, Act.put, List.setIfInBounds_toArray, List.set_cons_zero, List.set_cons_succ])
        refine wpAnyH_done (by kernel_rfl) ?_ _
        refine NoPanic.normal ?_
        have N1 := Lib.hid (Ay.mk_cells (TT.out.below H3.out).1 (TT.out.below H3.out).there EL.out)
        have N2 := Lib.hid (BX.out.trans ((BB.out.trans (belowCells (B := g7) g7 (Nat.le_refl _) (ac (tg (kW K) M n) 16) 0 _ (H3.out.mono (Nat.le_of_lt SZ)))).mono LB))
        clear H1 H2 H3 TRA SF TB PL EC
        go_wp2_with fail
        go_ret2
        exact ⟨g7, rfl, LB, N1.out, N2.out⟩
      · go_simp
        refine (TB.out _ (CC.out.below (bdrew1 _ _)) SF.out).mono ?_
        rintro e w' ⟨rfl, hb⟩
        have H1 := Lib.hid ((bdrew1 wr.heap.size wr).trans hb)
        clear hb
        go_wp2_with fail
        refine hKQ.out _ _ trivial (fun _ => ?_)
        clear hKQ KQ
        (try simp only [List.getElem_toArray, List.getElem_cons_succ, List.getElem_cons_zero, Act.put, List.setIfInBounds_toArray, List.set_cons_zero, List.set_cons_succ])
        refine wpAnyH_ready (rs := [1]) (by kernel_rfl) (by simp) (AllReadyH.cons rfl (fun KQ hKQ => ?_) AllReadyH.nil)
        rw [if_pos (by rfl)]
        refine wp_load_mid _ _ rfl _ _ rfl _ _ (TT.out.below H1.out).range Try.underlying38 rfl (by rw [ac_len]; exact info_blk) ?_
        refine hKQ.out _ _ trivial (fun _ => ?_)
        clear hKQ KQ
        (try simp only [List.getElem_toArray, List.getElem_cons_succ, List.getElem_cons_zero, Act.put, List.setIfInBounds_toArray, List.set_cons_zero, List.set_cons_succ])
        refine wpAnyH_ready (rs := [5]) (by kernel_rfl) (by simp) (AllReadyH.cons rfl (fun KQ hKQ => ?_) AllReadyH.nil)
        go_simp
        refine (PL.out _).mono ?_
        rintro e w' ⟨rfl, hb⟩
        have H2 := Lib.hid (H1.out.trans (hb.mono H1.out.size))
        clear hb
        go_wp2_with fail
        refine hKQ.out _ _ trivial (fun _ => ?_)
        clear hKQ KQ
        (try simp only [List.getElem_toArray, List.getElem_cons_succ, List.getElem_cons_zero, Act.put, List.setIfInBounds_toArray, List.set_cons_zero, List.set_cons_succ])
        refine wpAnyH_ready (rs := [6]) (by kernel_rfl) (by simp) (AllReadyH.cons rfl (fun KQ hKQ => ?_) AllReadyH.nil)
        go_simp
        refine (EC.out _ (CC.out.below H2.out)).mono ?_
        rintro e w' ⟨rfl, hb⟩
        have H3 := Lib.hid (H2.out.trans (hb.mono H2.out.size))
        clear hb
        go_wp2_with fail
        refine hKQ.out _ _ trivial (fun _ => ?_)
        clear hKQ KQ
        (try simp only [List.getElem_toArray, List.getElem_cons_succ, List.getElem_cons_zero, Act.put, List.setIfInBounds_toArray, List.set_cons_zero, List.set_cons_succ])
        refine wpAnyH_ready (rs := [7]) (by kernel_rfl) (by simp) (AllReadyH.cons rfl (fun KQ hKQ => ?_) AllReadyH.nil)
        rw [if_pos (by rfl)]
        refine wp_store_mid _ _ _ rfl _ _ (ac (tg (kW K) M n) 16).toArray rfl rfl (by rw [ac_size]; exact (TT.out.below H3.out).there) (by rw [ac_size]; exact info_blk) (ac_one _ 16) ?_
        rw [List.toList_toArray]
        refine hKQ.out _ _ trivial (fun _ => ?_)
        clear hKQ KQ
        (try simp only [List.getElem_toArray, List.getElem_cons_succ, List.getElem_cons_zero, Act.put, List.setIfInBounds_toArray, List.set_cons_zero, List.set_cons_succ])
        refine wpAnyH_done (by kernel_rfl) ?_ _
        refine NoPanic.normal ?_
        have N1 := Lib.hid (Ay.mk_cells (TT.out.below H3.out).1 (TT.out.below H3.out).there EL.out)
        have N2 := Lib.hid (BX.out.trans ((BB.out.trans (belowCells (B := g7) g7 (Nat.le_refl _) (ac (tg (kW K) M n) 16) 0 _ (H3.out.mono (Nat.le_of_lt SZ)))).mono LB))
        clear H1 H2 H3 TRA SF TB PL EC
        go_wp2_with fail
        go_ret2
        exact ⟨g7, rfl, LB, N1.out, N2.out⟩

set_option maxRecDepth 100000 in
set_option maxHeartbeats 1000000 in
/-- a key of another length. -/
theorem CMAC_bad (p p2 : Option Addr) (n m cap cap2 : Nat) (w : World) (h : ¬ n = 16) :
    Calls Try.prog 12 #[.slice p n cap, .slice p2 m cap2] w fun e w' => e = .returned (.tuple #[.slice none 0 0, .int .i64 3]) ∧ Below w.heap.size w w' := by
  have e0 : ((n : Int) == 16) = false := by simp; omega
  go_enter Try.func12, Try.ntmps12
  go_wp2_with fail
  go_ret2
  exact ⟨rfl, brefl w⟩
end Go.Proofs.Ytfefkakdhaecpaa.Ae
