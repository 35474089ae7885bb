/-
  A tag in numbers; the contract of aes.CMAC.
  Conditions: a key of sixteen bytes and a row of bytes are handed in.
  The contracts of sundialref05.Encipher and CMAC.
  Conditions: a key, a block, a row of bytes are handed in.
-/
import Derived.Test.YtbbcgcfahaljoaaDoorAe
import Derived.Deep.CutRange
namespace Go.Proofs.YtbbcgcfahaljoaaDoor.Ae
open Go.RowKit By
set_option linter.unusedVariables false
set_option linter.unusedSimpArgs false

/-- the chain behind t blocks. -/
def cs (W M : Nat → Nat) : Nat → Nat → Nat
  | 0 => fun _ => 0
  | t + 1 => enc W (xr (cs W M t) (fun i => M (16 * t + i)))
theorem cs_zero (W M : Nat → Nat) : cs W M 0 = fun _ => 0 := rfl
theorem cs_succ (W M : Nat → Nat) (t : Nat) : cs W M (t + 1) = enc W (xr (cs W M t) (fun i => M (16 * t + i))) := rfl
/-- the tag of n bytes. -/
def tg (W M : Nat → Nat) (n : Nat) : Nat → Nat := enc W (xr (cs W M ((n - 1) / 16)) (lbk W (fun i => M (16 * ((n - 1) / 16) + i)) (n - 16 * ((n - 1) / 16))))
theorem cs_lt {W M : Nat → Nat} (hW : ∀ i, i < 176 → W i < 256) : ∀ t i, i < 16 → cs W M t i < 256
  | 0, _, _ => by show 0 < 256; omega
  | t + 1, i, hi => enc_lt hW i hi

set_option maxRecDepth 100000 in
set_option maxHeartbeats 4000000 in
theorem CMAC_c (p p2 : Option Addr) (n cap cap2 : Nat) (K M : Nat → Nat) (w : World) (S1 : Sl w p 16 K) (S2 : Sl w p2 n M) (hK : ∀ i, i < 16 → K i < 256) (hM : ∀ i, M i < 256) (hc : n ≤ cap2) (hm : cap2 ≤ 9223372036854775807) :
    Calls Tryd.prog 27 #[.slice p 16 cap, .slice p2 n cap2] w fun e w' => ∃ g, e = .returned (.tuple #[.slice (some ⟨g, 0, none⟩) 16 16, .int .i64 0]) ∧ w.heap.size ≤ g ∧ Ay w' g 0 16 (tg (kW K) M n) ∧ Below w.heap.size w w' := by
  have NC := Lib.hid (newCipher_c p cap K w S1 hK)
  obtain ⟨b0, off, HP, HS⟩ : ∃ b0 off, Hid (0 < n → p2 = some ⟨b0, off, none⟩) ∧ Hid (0 < n → Bs w b0 off n M) := by
    by_cases c : 0 < n
    · obtain ⟨b0, off, hp, B⟩ := S2 c
      exact ⟨b0, off, Lib.hid (fun _ => hp), Lib.hid (fun _ => B)⟩
    · exact ⟨0, 0, Lib.hid (fun h => absurd h c), Lib.hid (fun h => absurd h c)⟩
  have HM := Lib.hid hM
  have WL := Lib.hid (kW_lt hK)
  clear S1 S2 hK hM
  go_enter Tryd.func27, Tryd.ntmps27
  go_wp2_with fail
  refine NC.out.mono ?_
  rintro e w1 ⟨b, rfl, hg, ci, hb1⟩
  have CL : b < w1.heap.size := ci.1.1
  have BA := Lib.hid (balloc (brefl w1) (.cells #[.int .u8 0, .int .u8 0, .int .u8 0, .int .u8 0, .int .u8 0, .int .u8 0, .int .u8 0, .int .u8 0, .int .u8 0, .int .u8 0, .int .u8 0, .int .u8 0, .int .u8 0, .int .u8 0, .int .u8 0, .int .u8 0] 72))
  have CI := Lib.hid (ci.below BA.out)
  have T0 : Hid (Ay (w1.alloc (.cells #[.int .u8 0, .int .u8 0, .int .u8 0, .int .u8 0, .int .u8 0, .int .u8 0, .int .u8 0, .int .u8 0, .int .u8 0, .int .u8 0, .int .u8 0, .int .u8 0, .int .u8 0, .int .u8 0, .int .u8 0, .int .u8 0] 72)) w1.heap.size 0 16 (cs (kW K) M 0)) := Lib.hid (Ay.new0 w1 16 72)
  have B1 := Lib.hid hb1
  have HS1 : Hid (0 < n → Bs (w1.alloc (.cells #[.int .u8 0, .int .u8 0, .int .u8 0, .int .u8 0, .int .u8 0, .int .u8 0, .int .u8 0, .int .u8 0, .int .u8 0, .int .u8 0, .int .u8 0, .int .u8 0, .int .u8 0, .int .u8 0, .int .u8 0, .int .u8 0] 72)) b0 off n M) := Lib.hid (fun h => ((HS.out h).below hb1).below BA.out)
  have LB := hb1.size
  have L0 : Hid (0 < n → b0 < w1.heap.size) := Lib.hid (fun h => ((HS.out h).below hb1).1)
  clear ci hb1 NC HS
  go_wp2_with fail
  generalize w1.alloc (.cells #[.int .u8 0, .int .u8 0, .int .u8 0, .int .u8 0, .int .u8 0, .int .u8 0, .int .u8 0, .int .u8 0, .int .u8 0, .int .u8 0, .int .u8 0, .int .u8 0, .int .u8 0, .int .u8 0, .int .u8 0, .int .u8 0] 72) = W1 at *
  have BX := Lib.hid (B1.out.trans (BA.out.mono LB))
  clear B1
  generalize hg7 : w1.heap.size = g7 at *
  go_loopw [1] (fun v wr => ∃ t k c o, ∃ q : Option Addr, k + 16 * t = n ∧ o = off + 16 * t ∧ (t = 0 ∨ 0 < k) ∧ v = .slice q k c ∧ k ≤ c ∧ c ≤ 9223372036854775807 ∧ (0 < k → q = some ⟨b0, o, none⟩) ∧ Ay wr g7 0 16 (cs (kW K) M t) ∧ Below g7 W1 wr) (fun v _ => sl v)
  case atStart => exact ⟨0, n, cap2, off, p2, by omega, by omega, .inl rfl, rfl, hc, hm, HP.out, T0.out, Below.refl _ _⟩
  case round =>
    clear T0 HP
    obtain ⟨t, k, c, o, q, hkn, ho, ht, rfl, hkc, hcm, hq, tr, hb⟩ := hrel
    rename World => wr
    have HKN := Lib.hid hkn
    have HO := Lib.hid ho
    have HT := Lib.hid ht
    have HQ := Lib.hid hq
    have TT := Lib.hid tr
    have BB := Lib.hid hb
    have CC : Hid (Ci wr b (kW K)) := Lib.hid ⟨CI.out.1.belowB CL hb, CI.out.2.belowB CL hb⟩
    have HSW : Hid (0 < k → Bs wr b0 o k (fun i => M (16 * t + i))) := Lib.hid (fun h => by
      have B := ((HS1.out (by omega)).belowB (L0.out (by omega)) hb).part (16 * t) k (by omega)
      rwa [← ho] at B)
    have SZ := tr.1
    clear hkn ho ht hq tr hb
    have CSL := Lib.hid (fun i hi => cs_lt (M := M) WL.out t i hi)
    have ML : Hid (∀ i, (fun i => M (16 * t + i)) i < 256) := Lib.hid (fun i => HM.out _)
    by_cases c16 : 16 < k
    · have e0 : decide ((16 : Int) < (k : Int)) = true := by rw [decide_eq_true_iff]; omega
      obtain rfl := HQ.out (by omega)
      have NX : Hid (cs (kW K) M (t + 1) = enc (kW K) (xr (cs (kW K) M t) (fun i => M (16 * t + i)))) := Lib.hid (cs_succ _ _ _)
      have TRA : Hid (wr.drew.rangeAt g7 0 (ac (cs (kW K) M t) 16)) := Lib.hid (TT.out.below (bdrew1 _ _)).range
      obtain ⟨F, hF⟩ : ∃ F : Nat → Nat, F = fun i => M (16 * t + i) := ⟨_, rfl⟩
      rw [← hF] at HSW ML NX
      clear hF
      have EL := Lib.hid (fun i hi => enc_lt (B := xr (cs (kW K) M t) F) WL.out i hi)
      generalize cs (kW K) M t = G at *
      have SF : Hid (Sl wr.drew (some ⟨b0, o, none⟩) 16 F) := Lib.hid (fun _ => ⟨b0, o, rfl, by
        have B := ((HSW.out (by omega)).below (bdrew1 _ _)).part 0 16 (by omega)
        rw [Nat.add_zero] at B
        exact ⟨B.1, ML.out, fun i hi => by have := B.2.2 i hi; simp only [Nat.zero_add] at this; exact this⟩⟩)
      have TB := Lib.hid (fun w (S : Sl w (some ⟨b0, o, none⟩) 16 F) => toBlock_c (some ⟨b0, o, none⟩) 16 c F w S (Nat.le_refl _) (fun i _ => ML.out i))
      have PE : Hid (ac (pad0 F 16) 16 = ac F 16) := Lib.hid (ac_eq (fun i hi => by unfold pad0; rw [if_pos hi]))
      rw [PE.out] at TB
      have PL := Lib.hid (fun w => plus_c G F w CSL.out (fun i _ => ML.out i))
      have EC := Lib.hid (fun w (C : Ci w b (kW K)) => encipher_c b (kW K) (xr G F) w C (fun i hi => lt_xor8 (CSL.out i hi) (ML.out i)))
      have k0 : (16 : Int) < (k : Int) := by omega
      have k1 : (k : Int) ≤ (c : Int) := by omega
      have k2 : (c : Int) ≤ 9223372036854775807 := by omega
      have k3 : (16 : Int) ≤ (c : Int) := by omega
      have k4 : (16 : Int) ≤ (k : Int) := by omega
      have k5 : (16 : Int) < (c : Int) := by omega
      have k6 : ¬ c = 16 := by omega
      go_wp2_with fail
      refine wp_region_noPanic ?_
      refine wp_region_held_drew (S := fun _ => True) (by kernel_rfl) trivial (fun hHeld => ?_)
      refine wpAnyH_take (i := 0) (v := ?_) rfl (by kernel_rfl) (by kernel_rfl) (by kernel_rfl) (fun _ _ _ h => h) (Or.inl ⟨by rfl, ?_⟩) hHeld ?_
      rotate_left
      · ((intro w _; go_simp); try with_reducible rfl)
      (try simp only [List.getElem_toArray, List.getElem_cons_succ, List.getElem_cons_zero, Act.put, List.setIfInBounds_toArray, List.set_cons_zero, List.set_cons_succ])
      refine wpAnyH_take (i := 2) (v := ?_) rfl (by kernel_rfl) (by kernel_rfl) (by kernel_rfl) (fun _ _ _ h => h) (Or.inl ⟨by rfl, ?_⟩) hHeld ?_
      rotate_left
      · ((intro w _; go_simp); try with_reducible rfl)
      (try simp only [List.getElem_toArray, List.getElem_cons_succ, List.getElem_cons_zero, Act.put, List.setIfInBounds_toArray, List.set_cons_zero, List.set_cons_succ])
      refine wpAnyH_take (i := 3) (v := ?_) rfl (by kernel_rfl) (by kernel_rfl) (by kernel_rfl) (fun _ _ _ h => h) (Or.inl ⟨by rfl, ?_⟩) hHeld ?_
      rotate_left
      · ((intro w _; go_simp); try with_reducible rfl)
      (try simp only [List.getElem_toArray, List.getElem_cons_succ, List.getElem_cons_zero, Act.put, List.setIfInBounds_toArray, List.set_cons_zero, List.set_cons_succ])
      refine wpAnyH_ready (rs := [1, 4]) (by kernel_rfl) (by simp) (AllReadyH.cons rfl (fun KQ hKQ => ?_) (AllReadyH.cons rfl (fun KQ hKQ => ?_) AllReadyH.nil))
      · rw [if_pos (by rfl)]
        refine wp_load_mid _ _ rfl _ _ rfl _ _ TRA.out Tryd.underlying72 rfl (by rw [ac_len]; exact info_blk) ?_
        refine hKQ.out _ _ trivial (fun _ => ?_)
        clear hKQ KQ
        (try simp only [List.getElem_toArray, List.getElem_cons_succ, List.getElem_cons_zero, Act.put, List.setIfInBounds_toArray, List.set_cons_zero, List.set_cons_succ])
        refine wpAnyH_ready (rs := [4]) (by kernel_rfl) (by simp) (AllReadyH.cons rfl (fun KQ hKQ => ?_) AllReadyH.nil)
        go_simp
        refine (TB.out _ SF.out).mono ?_
        rintro e w' ⟨rfl, hb⟩
        have H1 := Lib.hid ((bdrew1 wr.heap.size wr).trans hb)
        clear hb
        go_wp2_with fail
        refine hKQ.out _ _ trivial (fun _ => ?_)
        clear hKQ KQ
        (try simp only [List.getElem_toArray, List.getElem_cons_succ, List.getElem_cons_zero, Act.put, List.setIfInBounds_toArray, List.set_cons_zero, List.set_cons_succ])
        refine wpAnyH_ready (rs := [5]) (by kernel_rfl) (by simp) (AllReadyH.cons rfl (fun KQ hKQ => ?_) AllReadyH.nil)
        go_simp
        refine (PL.out _).mono ?_
        rintro e w' ⟨rfl, hb⟩
        have H2 := Lib.hid (H1.out.trans (hb.mono H1.out.size))
        clear hb
        go_wp2_with fail
        refine hKQ.out _ _ trivial (fun _ => ?_)
        clear hKQ KQ
        (try simp only [List.getElem_toArray, List.getElem_cons_succ, List.getElem_cons_zero, Act.put, List.setIfInBounds_toArray, List.set_cons_zero, List.set_cons_succ])
        refine wpAnyH_ready (rs := [6]) (by kernel_rfl) (by simp) (AllReadyH.cons rfl (fun KQ hKQ => ?_) AllReadyH.nil)
        go_simp
        refine (EC.out _ (CC.out.below H2.out)).mono ?_
        rintro e w' ⟨rfl, hb⟩
        have H3 := Lib.hid (H2.out.trans (hb.mono H2.out.size))
        clear hb
        go_wp2_with fail
        refine hKQ.out _ _ trivial (fun _ => ?_)
        clear hKQ KQ
        (try simp only [List.getElem_toArray, List.getElem_cons_succ, List.getElem_cons_zero, Act.put, List.setIfInBounds_toArray, List.set_cons_zero, List.set_cons_succ])
        refine wpAnyH_ready (rs := [7]) (by kernel_rfl) (by simp) (AllReadyH.cons rfl (fun KQ hKQ => ?_) AllReadyH.nil)
        rw [if_pos (by rfl)]
        refine wp_store_mid _ _ _ rfl _ _ (ac (enc (kW K) (xr G F)) 16).toArray rfl rfl (by rw [ac_size]; exact (TT.out.below H3.out).there) (by rw [ac_size]; exact info_blk) (ac_one _ 16) ?_
        rw [List.toList_toArray]
        refine hKQ.out _ _ trivial (fun _ => ?_)
        clear hKQ KQ
        (try simp only [List.getElem_toArray, List.getElem_cons_succ, List.getElem_cons_zero, Act.put, List.setIfInBounds_toArray, List.set_cons_zero, List.set_cons_succ])
        refine wpAnyH_done (by kernel_rfl) ?_ _
        refine NoPanic.normal ?_
        have N1 := Lib.hid (Ay.mk_cells (TT.out.below H3.out).1 (TT.out.below H3.out).there EL.out)
        have N2 := Lib.hid (BB.out.trans (belowCells (B := g7) g7 (Nat.le_refl _) (ac (enc (kW K) (xr G F)) 16) 0 _ (H3.out.mono (Nat.le_of_lt SZ))))
        clear H1 H2 H3 TRA SF TB PL EC
        go_wp2_with fail
        go_roundw
        case rel => exact ⟨t + 1, k - 16, c - 16, o + 16, _, by have := HKN.out; omega, by have := HO.out; omega, .inr (by omega), rfl, by omega, by omega, fun _ => rfl, by rw [NX.out]; exact N1.out, N2.out⟩
        case measure => simp [sl]; omega
      · go_simp
        refine (TB.out _ SF.out).mono ?_
        rintro e w' ⟨rfl, hb⟩
        have H1 := Lib.hid ((bdrew1 wr.heap.size wr).trans hb)
        clear hb
        go_wp2_with fail
        refine hKQ.out _ _ trivial (fun _ => ?_)
        clear hKQ KQ
        (try simp only [List.getElem_toArray, List.getElem_cons_succ, List.getElem_cons_zero, Act.put, List.setIfInBounds_toArray, List.set_cons_zero, List.set_cons_succ])
        refine wpAnyH_ready (rs := [1]) (by kernel_rfl) (by simp) (AllReadyH.cons rfl (fun KQ hKQ => ?_) AllReadyH.nil)
        rw [if_pos (by rfl)]
        refine wp_load_mid _ _ rfl _ _ rfl _ _ (TT.out.below H1.out).range Tryd.underlying72 rfl (by rw [ac_len]; exact info_blk) ?_
        refine hKQ.out _ _ trivial (fun _ => ?_)
        clear hKQ KQ
        (try simp only [List.getElem_toArray, List.getElem_cons_succ, List.getElem_cons_zero, Act.put, List.setIfInBounds_toArray, List.set_cons_zero, List.set_cons_succ])
        refine wpAnyH_ready (rs := [5]) (by kernel_rfl) (by simp) (AllReadyH.cons rfl (fun KQ hKQ => ?_) AllReadyH.nil)
        go_simp
        refine (PL.out _).mono ?_
        rintro e w' ⟨rfl, hb⟩
        have H2 := Lib.hid (H1.out.trans (hb.mono H1.out.size))
        clear hb
        go_wp2_with fail
        refine hKQ.out _ _ trivial (fun _ => ?_)
        clear hKQ KQ
        (try simp only [List.getElem_toArray, List.getElem_cons_succ, List.getElem_cons_zero, Act.put, List.setIfInBounds_toArray, List.set_cons_zero, List.set_cons_succ])
        refine wpAnyH_ready (rs := [6]) (by kernel_rfl) (by simp) (AllReadyH.cons rfl (fun KQ hKQ => ?_) AllReadyH.nil)
        go_simp
        refine (EC.out _ (CC.out.below H2.out)).mono ?_
        rintro e w' ⟨rfl, hb⟩
        have H3 := Lib.hid (H2.out.trans (hb.mono H2.out.size))
        clear hb
        go_wp2_with fail
        refine hKQ.out _ _ trivial (fun _ => ?_)
        clear hKQ KQ
        (try simp only [List.getElem_toArray, List.getElem_cons_succ, List.getElem_cons_zero, Act.put, List.setIfInBounds_toArray, List.set_cons_zero, List.set_cons_succ])
        refine wpAnyH_ready (rs := [7]) (by kernel_rfl) (by simp) (AllReadyH.cons rfl (fun KQ hKQ => ?_) AllReadyH.nil)
        rw [if_pos (by rfl)]
        refine wp_store_mid _ _ _ rfl _ _ (ac (enc (kW K) (xr G F)) 16).toArray rfl rfl (by rw [ac_size]; exact (TT.out.below H3.out).there) (by rw [ac_size]; exact info_blk) (ac_one _ 16) ?_
        rw [List.toList_toArray]
        refine hKQ.out _ _ trivial (fun _ => ?_)
        clear hKQ KQ
        (try simp only [List.getElem_toArray, List.getElem_cons_succ, List.getElem_cons_zero, Act.put, List.setIfInBounds_toArray, List.set_cons_zero, List.set_cons_succ])
        refine wpAnyH_done (by kernel_rfl) ?_ _
        refine NoPanic.normal ?_
        have N1 := Lib.hid (Ay.mk_cells (TT.out.below H3.out).1 (TT.out.below H3.out).there EL.out)
        have N2 := Lib.hid (BB.out.trans (belowCells (B := g7) g7 (Nat.le_refl _) (ac (enc (kW K) (xr G F)) 16) 0 _ (H3.out.mono (Nat.le_of_lt SZ))))
        clear H1 H2 H3 TRA SF TB PL EC
        go_wp2_with fail
        go_roundw
        case rel => exact ⟨t + 1, k - 16, c - 16, o + 16, _, by have := HKN.out; omega, by have := HO.out; omega, .inr (by omega), rfl, by omega, by omega, fun _ => rfl, by rw [NX.out]; exact N1.out, N2.out⟩
        case measure => simp [sl]; omega
    · have e0 : decide ((16 : Int) < (k : Int)) = false := by rw [decide_eq_false_iff_not]; omega
      have TE : Hid (t = (n - 1) / 16) := Lib.hid (by have := HKN.out; have := HT.out; omega)
      have KE : Hid (k = n - 16 * ((n - 1) / 16)) := Lib.hid (by have := HKN.out; have := TE.out; omega)
      have GE : Hid (tg (kW K) M n = enc (kW K) (xr (cs (kW K) M t) (lbk (kW K) (fun i => M (16 * t + i)) k))) := Lib.hid (by rw [KE.out, TE.out]; rfl)
      have TRA : Hid (wr.drew.rangeAt g7 0 (ac (cs (kW K) M t) 16)) := Lib.hid (TT.out.below (bdrew1 _ _)).range
      obtain ⟨F, hF⟩ : ∃ F : Nat → Nat, F = fun i => M (16 * t + i) := ⟨_, rfl⟩
      rw [← hF] at HSW ML GE
      clear hF TE KE
      have EL := Lib.hid (fun i hi => enc_lt (B := xr (cs (kW K) M t) (lbk (kW K) F k)) WL.out i hi)
      generalize cs (kW K) M t = G at *
      have SF : Hid (Sl wr.drew q k F) := Lib.hid (fun h => ⟨b0, o, HQ.out h, (HSW.out h).below (bdrew1 _ _)⟩)
      have LBL := Lib.hid (fun i hi => lbk_lt (n := k) WL.out (fun j (_ : j < k) => ML.out j) i hi)
      have TB := Lib.hid (fun w (C : Ci w b (kW K)) (S : Sl w q k F) => lastBlock_c b (kW K) F q k c w C S (by omega) (fun i _ => ML.out i))
      have PL := Lib.hid (fun w => plus_c G (lbk (kW K) F k) w CSL.out LBL.out)
      have EC := Lib.hid (fun w (C : Ci w b (kW K)) => encipher_c b (kW K) (xr G (lbk (kW K) F k)) w C (fun i hi => lt_xor8 (CSL.out i hi) (LBL.out i hi)))
      rw [← GE.out] at EC EL
      go_wp2_with fail
      refine wp_region_noPanic ?_
      refine wp_region_held_drew (S := fun _ => True) (by kernel_rfl) trivial (fun hHeld => ?_)
      refine wpAnyH_take (i := 0) (v := ?_) rfl (by kernel_rfl) (by kernel_rfl) (by kernel_rfl) (fun _ _ _ h => h) (Or.inl ⟨by rfl, ?_⟩) hHeld ?_
      rotate_left
      · ((intro w _; go_simp); try with_reducible rfl)
      (try simp only [List.getElem_toArray, List.getElem_cons_succ, List.getElem_cons_zero, Act.put, List.setIfInBounds_toArray, List.set_cons_zero, List.set_cons_succ])
      refine wpAnyH_take (i := 2) (v := ?_) rfl (by kernel_rfl) (by kernel_rfl) (by kernel_rfl) (fun _ _ _ h => h) (Or.inl ⟨by rfl, ?_⟩) hHeld ?_
      rotate_left
      · ((intro w _; go_simp); try with_reducible rfl)
      (try simp only [List.getElem_toArray, List.getElem_cons_succ, List.getElem_cons_zero, Act.put, List.setIfInBounds_toArray, List.set_cons_zero, List.set_cons_succ])
      refine wpAnyH_take (i := 3) (v := ?_) rfl (by kernel_rfl) (by kernel_rfl) (by kernel_rfl) (fun _ _ _ h => h) (Or.inl ⟨by rfl, ?_⟩) hHeld ?_
      rotate_left
      · ((intro w _; go_simp); try with_reducible rfl)
      (try simp only [List.getElem_toArray, List.getElem_cons_succ, List.getElem_cons_zero, Act.put, List.setIfInBounds_toArray, List.set_cons_zero, List.set_cons_succ])
      refine wpAnyH_ready (rs := [1, 4]) (by kernel_rfl) (by simp) (AllReadyH.cons rfl (fun KQ hKQ => ?_) (AllReadyH.cons rfl (fun KQ hKQ => ?_) AllReadyH.nil))
      · rw [if_pos (by rfl)]
        refine wp_load_mid _ _ rfl _ _ rfl _ _ TRA.out Tryd.underlying72 rfl (by rw [ac_len]; exact info_blk) ?_
        refine hKQ.out _ _ trivial (fun _ => ?_)
        clear hKQ KQ
        (try simp only [List.getElem_toArray, List.getElem_cons_succ, List.getElem_cons_zero, Act.put, List.setIfInBounds_toArray, List.set_cons_zero, List.set_cons_succ])
        refine wpAnyH_ready (rs := [4]) (by kernel_rfl) (by simp) (AllReadyH.cons rfl (fun KQ hKQ => ?_) AllReadyH.nil)
        go_simp
        refine (TB.out _ (CC.out.below (bdrew1 _ _)) SF.out).mono ?_
        rintro e w' ⟨rfl, hb⟩
        have H1 := Lib.hid ((bdrew1 wr.heap.size wr).trans hb)
        clear hb
        go_wp2_with fail
        refine hKQ.out _ _ trivial (fun _ => ?_)
        clear hKQ KQ
        (try simp only [List.getElem_toArray, List.getElem_cons_succ, List.getElem_cons_zero, Act.put, List.setIfInBounds_toArray, List.set_cons_zero, List.set_cons_succ])
        refine wpAnyH_ready (rs := [5]) (by kernel_rfl) (by simp) (AllReadyH.cons rfl (fun KQ hKQ => ?_) AllReadyH.nil)
        go_simp
        refine (PL.out _).mono ?_
        rintro e w' ⟨rfl, hb⟩
        have H2 := Lib.hid (H1.out.trans (hb.mono H1.out.size))
        clear hb
        go_wp2_with fail
        refine hKQ.out _ _ trivial (fun _ => ?_)
        clear hKQ KQ
        (try simp only [List.getElem_toArray, List.getElem_cons_succ, List.getElem_cons_zero, Act.put, List.setIfInBounds_toArray, List.set_cons_zero, List.set_cons_succ])
        refine wpAnyH_ready (rs := [6]) (by kernel_rfl) (by simp) (AllReadyH.cons rfl (fun KQ hKQ => ?_) AllReadyH.nil)
        go_simp
        refine (EC.out _ (CC.out.below H2.out)).mono ?_
        rintro e w' ⟨rfl, hb⟩
        have H3 := Lib.hid (H2.out.trans (hb.mono H2.out.size))
        clear hb
        go_wp2_with fail
        refine hKQ.out _ _ trivial (fun _ => ?_)
        clear hKQ KQ
        (try simp only [List.getElem_toArray, List.getElem_cons_succ, List.getElem_cons_zero, Act.put, List.setIfInBounds_toArray, List.set_cons_zero, List.set_cons_succ])
        refine wpAnyH_ready (rs := [7]) (by kernel_rfl) (by simp) (AllReadyH.cons rfl (fun KQ hKQ => ?_) AllReadyH.nil)
        rw [if_pos (by rfl)]
        refine wp_store_mid _ _ _ rfl _ _ (ac (tg (kW K) M n) 16).toArray rfl rfl (by rw [ac_size]; exact (TT.out.below H3.out).there) (by rw [ac_size]; exact info_blk) (ac_one _ 16) ?_
        rw [List.toList_toArray]
        refine hKQ.out _ _ trivial (fun _ => ?_)
        clear hKQ KQ
        (try simp only [List.getElem_toArray, List.getElem_cons_succ, List.getElem_cons_zero, Act.put, List.setIfInBounds_toArray, List.set_cons_zero, List.set_cons_succ])
        refine wpAnyH_done (by kernel_rfl) ?_ _
        refine NoPanic.normal ?_
        have N1 := Lib.hid (Ay.mk_cells (TT.out.below H3.out).1 (TT.out.below H3.out).there EL.out)
        have N2 := Lib.hid (BX.out.trans ((BB.out.trans (belowCells (B := g7) g7 (Nat.le_refl _) (ac (tg (kW K) M n) 16) 0 _ (H3.out.mono (Nat.le_of_lt SZ)))).mono LB))
        clear H1 H2 H3 TRA SF TB PL EC
        go_wp2_with fail
        go_ret2
        exact ⟨g7, rfl, LB, N1.out, N2.out⟩
      · go_simp
        refine (TB.out _ (CC.out.below (bdrew1 _ _)) SF.out).mono ?_
        rintro e w' ⟨rfl, hb⟩
        have H1 := Lib.hid ((bdrew1 wr.heap.size wr).trans hb)
        clear hb
        go_wp2_with fail
        refine hKQ.out _ _ trivial (fun _ => ?_)
        clear hKQ KQ
        (try simp only [List.getElem_toArray, List.getElem_cons_succ, List.getElem_cons_zero, Act.put, List.setIfInBounds_toArray, List.set_cons_zero, List.set_cons_succ])
        refine wpAnyH_ready (rs := [1]) (by kernel_rfl) (by simp) (AllReadyH.cons rfl (fun KQ hKQ => ?_) AllReadyH.nil)
        rw [if_pos (by rfl)]
        refine wp_load_mid _ _ rfl _ _ rfl _ _ (TT.out.below H1.out).range Tryd.underlying72 rfl (by rw [ac_len]; exact info_blk) ?_
        refine hKQ.out _ _ trivial (fun _ => ?_)
        clear hKQ KQ
        (try simp only [List.getElem_toArray, List.getElem_cons_succ, List.getElem_cons_zero, Act.put, List.setIfInBounds_toArray, List.set_cons_zero, List.set_cons_succ])
        refine wpAnyH_ready (rs := [5]) (by kernel_rfl) (by simp) (AllReadyH.cons rfl (fun KQ hKQ => ?_) AllReadyH.nil)
        go_simp
        refine (PL.out _).mono ?_
        rintro e w' ⟨rfl, hb⟩
        have H2 := Lib.hid (H1.out.trans (hb.mono H1.out.size))
        clear hb
        go_wp2_with fail
        refine hKQ.out _ _ trivial (fun _ => ?_)
        clear hKQ KQ
        (try simp only [List.getElem_toArray, List.getElem_cons_succ, List.getElem_cons_zero, Act.put, List.setIfInBounds_toArray, List.set_cons_zero, List.set_cons_succ])
        refine wpAnyH_ready (rs := [6]) (by kernel_rfl) (by simp) (AllReadyH.cons rfl (fun KQ hKQ => ?_) AllReadyH.nil)
        go_simp
        refine (EC.out _ (CC.out.below H2.out)).mono ?_
        rintro e w' ⟨rfl, hb⟩
        have H3 := Lib.hid (H2.out.trans (hb.mono H2.out.size))
        clear hb
        go_wp2_with fail
        refine hKQ.out _ _ trivial (fun _ => ?_)
        clear hKQ KQ
        (try simp only [List.getElem_toArray, List.getElem_cons_succ, List.getElem_cons_zero, Act.put, List.setIfInBounds_toArray, List.set_cons_zero, List.set_cons_succ])
        refine wpAnyH_ready (rs := [7]) (by kernel_rfl) (by simp) (AllReadyH.cons rfl (fun KQ hKQ => ?_) AllReadyH.nil)
        rw [if_pos (by rfl)]
        refine wp_store_mid _ _ _ rfl _ _ (ac (tg (kW K) M n) 16).toArray rfl rfl (by rw [ac_size]; exact (TT.out.below H3.out).there) (by rw [ac_size]; exact info_blk) (ac_one _ 16) ?_
        rw [List.toList_toArray]
        refine hKQ.out _ _ trivial (fun _ => ?_)
        clear hKQ KQ
        (try simp only [List.getElem_toArray, List.getElem_cons_succ, List.getElem_cons_zero, Act.put, List.setIfInBounds_toArray, List.set_cons_zero, List.set_cons_succ])
        refine wpAnyH_done (by kernel_rfl) ?_ _
        refine NoPanic.normal ?_
        have N1 := Lib.hid (Ay.mk_cells (TT.out.below H3.out).1 (TT.out.below H3.out).there EL.out)
        have N2 := Lib.hid (BX.out.trans ((BB.out.trans (belowCells (B := g7) g7 (Nat.le_refl _) (ac (tg (kW K) M n) 16) 0 _ (H3.out.mono (Nat.le_of_lt SZ)))).mono LB))
        clear H1 H2 H3 TRA SF TB PL EC
        go_wp2_with fail
        go_ret2
        exact ⟨g7, rfl, LB, N1.out, N2.out⟩

set_option maxRecDepth 100000 in
set_option maxHeartbeats 1000000 in
/-- a key of another length. -/
theorem CMAC_bad (p p2 : Option Addr) (n m cap cap2 : Nat) (w : World) (h : ¬ n = 16) :
    Calls Tryd.prog 27 #[.slice p n cap, .slice p2 m cap2] w fun e w' => e = .returned (.tuple #[.slice none 0 0, .int .i64 3]) ∧ Below w.heap.size w w' := by
  have e0 : ((n : Int) == 16) = false := by simp; omega
  go_enter Tryd.func27, Tryd.ntmps27
  go_wp2_with fail
  go_ret2
  exact ⟨rfl, brefl w⟩
end Go.Proofs.YtbbcgcfahaljoaaDoor.Ae
namespace Go.Proofs.YtbbcgcfahaljoaaDoor.Ae
open Go.RowKit By
set_option linter.unusedVariables false
set_option linter.unusedSimpArgs false

theorem kW_all {K : Nat → Nat} (h : ∀ i, K i < 256) (i : Nat) : kW K i < 256 := kX_lt h 40 i
theorem enc_all {W B : Nat → Nat} (hW : ∀ i, W i < 256) (i : Nat) : enc W B i < 256 := lt_xor8 (mv_lt _ i) (hW _)

theorem dbl_all {f : Nat → Nat} (hf : ∀ i, f i < 256) (i : Nat) : dbl f i < 256 := dbl_lt hf i
theorem cs_all {W M : Nat → Nat} (hW : ∀ i, W i < 256) : ∀ t i, cs W M t i < 256
  | 0, _ => by show 0 < 256; omega
  | t + 1, i => enc_all hW i
/-- a slice that holds sixteen bytes. -/
def S16 (w : World) (base : Nat) (v : Value) (f : Nat → Nat) : Prop := ∃ g cp, v = .slice (some ⟨g, 0, none⟩) 16 cp ∧ base ≤ g ∧ 16 ≤ cp ∧ cp ≤ 9223372036854775807 ∧ Bs w g 0 16 f
theorem S16.below {w w' : World} {base : Nat} {v : Value} {f : Nat → Nat} (h : S16 w base v f) (k : Below w.heap.size w w') : S16 w' base v f := by
  obtain ⟨g, cp, e, h1, h2, h3, B⟩ := h
  exact ⟨g, cp, e, h1, h2, h3, B.below k⟩
theorem S16.own {w : World} {base : Nat} {v : Value} {f : Nat → Nat} (h : Own w base v (bl f 16)) (hf : ∀ i, f i < 256) : S16 w base v f := by
  obtain ⟨g, cp, e, h1, B, h2, h3⟩ := OwnB h (by omega) hf
  exact ⟨g, cp, e, h1, h2, h3, B⟩
theorem S16.z (w : World) (ty : TypeId) : Bs (w.alloc (.cells #[.int .u8 0, .int .u8 0, .int .u8 0, .int .u8 0, .int .u8 0, .int .u8 0, .int .u8 0, .int .u8 0, .int .u8 0, .int .u8 0, .int .u8 0, .int .u8 0, .int .u8 0, .int .u8 0, .int .u8 0, .int .u8 0] ty)) w.heap.size 0 16 (fun _ => 0) := by
  have h : Ay (w.alloc (.cells #[.int .u8 0, .int .u8 0, .int .u8 0, .int .u8 0, .int .u8 0, .int .u8 0, .int .u8 0, .int .u8 0, .int .u8 0, .int .u8 0, .int .u8 0, .int .u8 0, .int .u8 0, .int .u8 0, .int .u8 0, .int .u8 0] ty)) w.heap.size 0 16 (fun _ => 0) := Ay.new0 w 16 ty
  exact ⟨h.1, fun _ => by simp, fun i hi => (h.2.2 i hi).1⟩

theorem z16_mk : madeCells #[Value.int .u8 0] 16 = #[.int .u8 0, .int .u8 0, .int .u8 0, .int .u8 0, .int .u8 0, .int .u8 0, .int .u8 0, .int .u8 0, .int .u8 0, .int .u8 0, .int .u8 0, .int .u8 0, .int .u8 0, .int .u8 0, .int .u8 0, .int .u8 0] := by kernel_rfl
theorem mk16 (w : World) : (Instr.makeSlice 26 (.int .i64 16) (.int .i64 16)).run Tryd.prog w = .ok (.slice (some ⟨w.heap.size, 0, none⟩) 16 16) (w.alloc (.cells #[.int .u8 0, .int .u8 0, .int .u8 0, .int .u8 0, .int .u8 0, .int .u8 0, .int .u8 0, .int .u8 0, .int .u8 0, .int .u8 0, .int .u8 0, .int .u8 0, .int .u8 0, .int .u8 0, .int .u8 0, .int .u8 0] 5)) := by
  obtain ⟨i, hi, hz, hs, hby⟩ := info_parts info_u8
  have h := run_make (P := Tryd.prog) w 26 5 i (.int .u8 0) Tryd.underlying26 hi hz .i64 .i64 16 16 (by omega) (by omega) (by rw [hby]; omega) (by omega)
  rw [hs, Nat.mul_one] at h
  have e : madeCells (Value.int .u8 0).cells ((16 : Int).toNat) = #[.int .u8 0, .int .u8 0, .int .u8 0, .int .u8 0, .int .u8 0, .int .u8 0, .int .u8 0, .int .u8 0, .int .u8 0, .int .u8 0, .int .u8 0, .int .u8 0, .int .u8 0, .int .u8 0, .int .u8 0, .int .u8 0] := z16_mk
  rw [e] at h
  exact h
theorem Arg.sl {w : World} {p : Option Addr} {n cap : Nat} {M : Nat → Nat} (A : Arg w (.slice p n cap) n M) : Sl w p n M ∧ n ≤ cap ∧ cap ≤ 140737488351232 ∧ (∀ i, M i < 256) ∧ (p = none → cap = 0) := by
  obtain ⟨a, c, e, h1, h2, h3, h4, h5⟩ := A
  simp only [Value.slice.injEq, true_and] at e
  obtain ⟨rfl, rfl⟩ := e
  exact ⟨h4, h1, h2, h3, h5⟩

theorem Own.len {w : World} {base : Nat} {v : Value} {l : List Nat} (h : Own w base v l) : ∃ p c, v = .slice p l.length c := by
  rcases h.2 with ⟨rfl, h0⟩ | ⟨g, cap, cur, rfl, _⟩
  · exact ⟨none, 0, by rw [h0]⟩
  · exact ⟨_, _, rfl⟩
theorem bl_pd (F : Nat → Nat) (k : Nat) : bl (pd F k) (k + 1) = bl F k ++ [128] := by
  rw [bl_succ]
  congr 1
  · exact bl_congr (fun i hi => by unfold pd; rw [if_pos hi])
  · unfold pd
    rw [if_neg (Nat.lt_irrefl _), if_pos rfl]
theorem bl_pd0 (F : Nat → Nat) (k j : Nat) (h : k < j) : bl (pd F k) (j + 1) = bl (pd F k) j ++ [0] := by
  rw [bl_succ]
  congr 1
  unfold pd
  rw [if_neg (by omega), if_neg (by omega)]

set_option maxRecDepth 100000 in
set_option maxHeartbeats 4000000 in
theorem rCMAC_c (b o cap : Nat) (p2 : Option Addr) (n cap2 : Nat) (K M : Nat → Nat) (w : World) (HK : Bs w b o 16 K) (A : Arg w (.slice p2 n cap2) n M) :
    Calls Tryd.prog 30 #[.slice (some ⟨b, o, none⟩) 16 cap, .slice p2 n cap2] w fun e w' => (∃ v, e = .returned (.tuple #[v, .int .i64 0]) ∧ Own w' w.heap.size v (bl (tg (kW K) M n) 16)) ∧ Below w.heap.size w w' := by
  have KC := Lib.hid (rkeys_c b o cap K w HK)
  have KL := Lib.hid HK.2.1
  obtain ⟨S2, hc, hm, hM, hnil⟩ := Arg.sl A
  have HM := Lib.hid hM
  have HA := Lib.hid A
  have HN := Lib.hid hnil
  obtain ⟨b0, off, HP, HS⟩ : ∃ b0 off, Hid (0 < n → p2 = some ⟨b0, off, none⟩) ∧ Hid (0 < n → Bs w b0 off n M) := by
    by_cases c : 0 < n
    · obtain ⟨b0, off, hp, B⟩ := S2 c
      exact ⟨b0, off, Lib.hid (fun _ => hp), Lib.hid (fun _ => B)⟩
    · exact ⟨0, 0, Lib.hid (fun h => absurd h c), Lib.hid (fun h => absurd h c)⟩
  clear HK S2 hM A hnil
  have i0 : (n : Int) ≤ (cap2 : Int) := by omega
  have i1 : (cap2 : Int) ≤ 140737488351232 := by omega
  have MK := mk16
  go_enter Tryd.func30, Tryd.ntmps30
  go_wp2_with fail
  refine KC.out.mono ?_
  rintro e w1 ⟨⟨v, rfl, own⟩, hb1⟩
  obtain ⟨g, cp, rfl, hg, BW, h1, h2⟩ := OwnB own (by omega) (kW_all KL.out)
  replace BW : Bs w1 g 0 176 (kW K) := BW
  have WL := Lib.hid (kW_all KL.out)
  have HW := Lib.hid BW
  have B1 := Lib.hid hb1
  have SZ := hb1.size
  clear own BW hb1 KC
  have RC := Lib.hid (fun w' b2 o2 cap2 B (k : Bs w' g 0 176 (kW K)) (HB : Bs w' b2 o2 16 B) => rcipher_c g 0 176 cp b2 o2 cap2 (kW K) B w' k rfl (by omega) (by omega) HB)
  obtain ⟨W, hW⟩ : ∃ W, W = kW K := ⟨_, rfl⟩
  rw [← hW] at WL HW RC
  have HWE := Lib.hid hW
  clear hW
  have ZB := Lib.hid (S16.z w1 5)
  have WZ := Lib.hid (HW.out.below (balloc (brefl w1) (.cells #[.int .u8 0, .int .u8 0, .int .u8 0, .int .u8 0, .int .u8 0, .int .u8 0, .int .u8 0, .int .u8 0, .int .u8 0, .int .u8 0, .int .u8 0, .int .u8 0, .int .u8 0, .int .u8 0, .int .u8 0, .int .u8 0] 5)))
  go_wp2_with fail
  refine (RC.out _ _ 0 16 _ WZ.out ZB.out).mono ?_
  rintro e w2 ⟨⟨v, rfl, own⟩, hb2⟩
  have BZ := Lib.hid (balloc (brefl w1) (.cells #[.int .u8 0, .int .u8 0, .int .u8 0, .int .u8 0, .int .u8 0, .int .u8 0, .int .u8 0, .int .u8 0, .int .u8 0, .int .u8 0, .int .u8 0, .int .u8 0, .int .u8 0, .int .u8 0, .int .u8 0, .int .u8 0] 5))
  have B2 := Lib.hid (bstep BZ.out hb2)
  obtain ⟨g2, cp2, rfl, hg2, BS2, h3, h4⟩ := OwnB own (by omega) (enc_all WL.out)
  have DC := Lib.hid (rdoubled_c g2 0 16 cp2 _ w2 BS2 (by omega) (by omega))
  clear own hb2 BS2 ZB WZ BZ
  go_wp2_with fail
  refine DC.out.mono ?_
  rintro e w3 ⟨⟨v, rfl, own⟩, hb3⟩
  have B3 := Lib.hid (bstep B2.out hb3)
  have SKL := Lib.hid (dbl_all (enc_all (B := fun _ => 0) WL.out))
  replace SKL : Hid (∀ i, sk W i < 256) := SKL
  replace own : Own w3 w2.heap.size v (bl (sk W) 16) := own
  obtain ⟨g3, cp3, rfl, hg3, BS3, h5, h6⟩ := OwnB own (by omega) SKL.out
  have DC := Lib.hid (rdoubled_c g3 0 16 cp3 _ w3 BS3 (by omega) (by omega))
  have K1 := Lib.hid BS3
  clear own hb3 BS3 B2
  go_wp2_with fail
  refine DC.out.mono ?_
  rintro e w4 ⟨⟨v, rfl, own⟩, hb4⟩
  have B4 := Lib.hid (bstep B3.out hb4)
  have K1' := Lib.hid (K1.out.below hb4)
  obtain ⟨g4, cp4, rfl, hg4, BS4, h7, h8⟩ := OwnB own (by omega) (dbl_all SKL.out)
  have K2 := Lib.hid (BS4.below (balloc (brefl w4) (.cells #[.int .u8 0, .int .u8 0, .int .u8 0, .int .u8 0, .int .u8 0, .int .u8 0, .int .u8 0, .int .u8 0, .int .u8 0, .int .u8 0, .int .u8 0, .int .u8 0, .int .u8 0, .int .u8 0, .int .u8 0, .int .u8 0] 5)))
  have K1 := Lib.hid (K1'.out.below (balloc (brefl w4) (.cells #[.int .u8 0, .int .u8 0, .int .u8 0, .int .u8 0, .int .u8 0, .int .u8 0, .int .u8 0, .int .u8 0, .int .u8 0, .int .u8 0, .int .u8 0, .int .u8 0, .int .u8 0, .int .u8 0, .int .u8 0, .int .u8 0] 5)))
  have B5 := Lib.hid (bstep B4.out (balloc (brefl w4) (.cells #[.int .u8 0, .int .u8 0, .int .u8 0, .int .u8 0, .int .u8 0, .int .u8 0, .int .u8 0, .int .u8 0, .int .u8 0, .int .u8 0, .int .u8 0, .int .u8 0, .int .u8 0, .int .u8 0, .int .u8 0, .int .u8 0] 5)))
  have ZB := Lib.hid (S16.z w4 5)
  have LW4 : w.heap.size ≤ w4.heap.size := Nat.le_trans SZ B4.out.size
  clear own hb4 BS4 K1' DC B3 B4
  go_wp2_with fail
  have S0 : Hid (S16 (w4.alloc (.cells #[.int .u8 0, .int .u8 0, .int .u8 0, .int .u8 0, .int .u8 0, .int .u8 0, .int .u8 0, .int .u8 0, .int .u8 0, .int .u8 0, .int .u8 0, .int .u8 0, .int .u8 0, .int .u8 0, .int .u8 0, .int .u8 0] 5)) w.heap.size (.slice (some ⟨w4.heap.size, 0, none⟩) 16 16) (cs W M 0)) := Lib.hid ⟨_, _, rfl, LW4, by omega, by omega, ZB.out⟩
  generalize w4.alloc (.cells #[.int .u8 0, .int .u8 0, .int .u8 0, .int .u8 0, .int .u8 0, .int .u8 0, .int .u8 0, .int .u8 0, .int .u8 0, .int .u8 0, .int .u8 0, .int .u8 0, .int .u8 0, .int .u8 0, .int .u8 0, .int .u8 0] 5) = W5 at *
  clear ZB MK
  have HW5 := Lib.hid (HW.out.below B5.out)
  have HA5 := Lib.hid ((HA.out.below B1.out).below B5.out)
  have HS5 : Hid (0 < n → Bs W5 b0 off n M) := Lib.hid (fun h => ((HS.out h).below B1.out).below B5.out)
  have BX := Lib.hid (B1.out.trans (B5.out.mono SZ))
  have SX := BX.out.size
  clear HW HA HS B5 B1
  go_loopw [9, 10] (fun v i wr => ∃ t a : Nat, a = 16 * t ∧ i = .int .i64 a ∧ (t = 0 ∨ a < n) ∧ S16 wr w.heap.size v (cs W M t) ∧ Below W5.heap.size W5 wr) (fun _ i _ => n - (intOf i).toNat)
  case atStart => exact ⟨0, 0, rfl, rfl, .inl rfl, S0.out, Below.refl _ _⟩
  case round =>
    clear S0
    obtain ⟨t, a, ha, rfl, ht, sv, hb⟩ := hrel
    rename World => wr
    have HT := Lib.hid ha
    have HX := Lib.hid ht
    have BB := Lib.hid hb
    have an : a ≤ n := by omega
    clear ht ha hb
    obtain ⟨gs, cps, rfl, hgs, hc1, hc2, bs⟩ := sv
    have SB := Lib.hid bs
    clear bs
    have CSL := Lib.hid (cs_all (M := M) WL.out t)
    have a0 : (0 : Int) ≤ (a : Int) := by omega
    have a1 : (a : Int) ≤ (n : Int) := by omega
    by_cases c16 : 16 < n - a
    · have e0 : decide ((16 : Int) < (n : Int) - (a : Int)) = true := by rw [decide_eq_true_iff]; omega
      have NX : Hid (cs W M (t + 1) = enc W (xr (cs W M t) (fun i => M (a + i)))) := Lib.hid (by rw [cs_succ, HT.out])
      have HPN := HP.out (by omega)
      subst HPN
      have MB := Lib.hid (((HS5.out (by omega)).below BB.out).part a 16 (by omega))
      have XC := Lib.hid (fun c' => rxor_c gs 0 16 cps b0 (off + a) 16 c' (cs W M t) (fun i => M (a + i)) wr SB.out MB.out (by omega) (by omega) (by omega) (by omega))
      have WR := Lib.hid (HW5.out.below BB.out)
      have j1 : (a : Int) + 16 ≤ (cap2 : Int) := by omega
      have j2 : (a : Int) < (cap2 : Int) := by omega
      have j3 : (a : Int) ≤ (a : Int) + 16 := by omega
      have j4 : ((a : Int) + 16).toNat = a + 16 := by omega
      have j5 : ¬ cap2 = a := by omega
      have j6 : (0 : Int) ≤ (a : Int) + 16 := by omega
      go_wp2_with fail
      refine (XC.out _).mono ?_
      rintro e w6 ⟨⟨v, rfl, own⟩, hb6⟩
      obtain ⟨g6, cp6, rfl, hg6, BS6, q1, q2⟩ := OwnB own (by omega) (xr_lt CSL.out (fun i => HM.out _))
      have CC := Lib.hid (RC.out w6 g6 0 cp6 _ (WR.out.below hb6) BS6)
      have B6 := Lib.hid (bstep BB.out hb6)
      clear own hb6 BS6 XC
      go_wp2_with fail
      refine CC.out.mono ?_
      rintro e w7 ⟨⟨v, rfl, own⟩, hb7⟩
      have B7 := Lib.hid (bstep B6.out hb7)
      rw [← NX.out] at own
      have S7 := Lib.hid (S16.own (own.le (base' := w.heap.size) (Nat.le_trans SX B6.out.size)) (cs_all WL.out (t + 1)))
      clear own hb7 CC
      go_wp2_with fail
      go_roundw
      case rel => exact ⟨t + 1, a + 16, by rw [HT.out]; omega, by go_num, .inr (by omega), S7.out, B7.out⟩
      case measure => simp [intOf]; omega
    · have e0 : decide ((16 : Int) < (n : Int) - (a : Int)) = false := by rw [decide_eq_false_iff_not]; omega
      have TE : Hid (t = (n - 1) / 16) := Lib.hid (by have := HT.out; have := HX.out; omega)
      obtain ⟨k, hk⟩ : ∃ k, k = n - a := ⟨_, rfl⟩
      have KE : Hid (k = n - 16 * ((n - 1) / 16)) := Lib.hid (by rw [hk, HT.out, TE.out])
      have GE : Hid (tg W M n = enc W (xr (cs W M t) (lbk W (fun i => M (a + i)) k))) := Lib.hid (by rw [KE.out, HT.out, TE.out]; rfl)
      obtain ⟨F, hF⟩ : ∃ F : Nat → Nat, F = fun i => M (a + i) := ⟨_, rfl⟩
      have FL : Hid (∀ i, F i < 256) := Lib.hid (by rw [hF]; exact fun i => HM.out _)
      rw [← hF] at GE
      have HFE := Lib.hid hF
      clear hF KE TE
      go_upto_region 12 with fail
      go_cut [11] from 41 to 45 (fun v wc => Own wc wr.heap.size v (bl F k) ∧ Below wr.heap.size wr wc)
      case first =>
        by_cases n0 : n = 0
        · have a00 : a = 0 := by omega
          have k00 : k = 0 := by omega
          clear hk
          subst n0
          subst a00
          subst k00
          obtain ⟨v2, w2, hr, ho, hb2, hs2, _⟩ := HA5.out.app BB.out (Own.nil wr wr.heap.size) (Nat.le_refl _) (by simp) 26
          have HR := Lib.hid hr
          have HO : Hid (Own w2 wr.heap.size v2 (bl F 0)) := Lib.hid ho
          have HB2 := Lib.hid hb2
          clear hr ho hb2
          cases p2 with
          | none =>
            have hc0 : cap2 = 0 := HN.out rfl
            subst hc0
            go_wp2_with (at_builtin; refine wpList_append_eq rfl _ _ 26 rfl _ _ v2 w2 rfl rfl HR.out ?_)
            go_meet
            exact ⟨HO.out, HB2.out⟩
          | some ad =>
            by_cases hc0 : cap2 = 0
            · subst hc0
              go_wp2_with (at_builtin; refine wpList_append_eq rfl _ _ 26 rfl _ _ v2 w2 rfl rfl HR.out ?_)
              go_meet
              exact ⟨HO.out, HB2.out⟩
            · go_wp2_with (at_builtin; refine wpList_append_eq rfl _ _ 26 rfl _ _ v2 w2 rfl rfl HR.out ?_)
              go_meet
              exact ⟨HO.out, HB2.out⟩
        · have HPN := HP.out (by omega)
          subst HPN
          have MB := Lib.hid (((HS5.out (by omega)).below BB.out).part a k (by omega))
          rw [← HFE.out] at MB
          obtain ⟨v2, w2, hr, ho, hb2, hs2⟩ := appB (Own.nil wr wr.heap.size) MB.out (cap2 - a) (Nat.le_refl _) (by simp; omega) 26
          rw [hk] at hr
          have HR := Lib.hid hr
          have HO := Lib.hid ho
          have HB2 := Lib.hid hb2
          clear hr ho hb2
          have al : a < n := by have := HT.out; have := HX.out; omega
          have j2 : (a : Int) < (cap2 : Int) := by omega
          have j5 : ¬ cap2 = a := by omega
          go_wp2_with (at_builtin; refine wpList_append_eq rfl _ _ 26 rfl _ _ v2 w2 rfl rfl HR.out ?_)
          go_meet
          exact ⟨by simpa using HO.out, HB2.out⟩
      case rest =>
        obtain ⟨oc, bc⟩ := hcut
        have OC := Lib.hid oc
        have BC := Lib.hid bc
        clear oc bc
        have kle : k ≤ 16 := by omega
        by_cases ck : k = 16
        · have OK := OC.out
          rw [ck] at OK
          obtain ⟨g11, c11, rfl, hg11, BS11, y1, y2⟩ := OwnB OK (by omega) FL.out
          have LB11 := Lib.hid BS11
          have KB := Lib.hid ((K1.out.below BB.out).below BC.out)
          have SBC := Lib.hid (SB.out.below BC.out)
          clear OK BS11 OC
          have XC := Lib.hid (rxor_c g11 0 16 c11 g3 0 16 cp3 (F) (sk W) wc LB11.out KB.out (by omega) (by omega) (by omega) (by omega))
          have EQ : Hid (bl (enc W (xr (cs W M t) (xr (F) (sk W)))) 16 = bl (enc W (xr (cs W M t) (lbk W F k))) 16) := Lib.hid (bl_congr (fun i hi => enc_congr (fun _ _ => rfl) (fun i hi => by
            show cs W M t i ^^^ (F i ^^^ sk W i) = cs W M t i ^^^ (pd F k i ^^^ (if k = 16 then sk W else dbl (sk W)) i)
            rw [if_pos ck]
            unfold pd
            rw [if_pos (by omega)]) i hi))
          go_wp2_with fail
          refine XC.out.mono ?_
          rintro e w8 ⟨⟨v8, rfl, own⟩, hb8⟩
          obtain ⟨g8, cp8, rfl, hg8, BS8, z1, z2⟩ := OwnB own (by omega) (xr_lt FL.out SKL.out)
          have SB8 := Lib.hid ((SB.out.below BC.out).below hb8)
          have BT8 := Lib.hid (bstep BC.out hb8)
          have XC2 := Lib.hid (rxor_c gs 0 16 cps g8 0 16 cp8 (cs W M t) (xr (F) (sk W)) w8 SB8.out BS8 (by omega) (by omega) (by omega) (by omega))
          clear own hb8 BS8 XC
          go_wp2_with fail
          refine XC2.out.mono ?_
          rintro e w9 ⟨⟨v9, rfl, own⟩, hb9⟩
          obtain ⟨g9, cp9, rfl, hg9, BS9, z3, z4⟩ := OwnB own (by omega) (xr_lt CSL.out (xr_lt FL.out SKL.out))
          have BT9 := Lib.hid (bstep BT8.out hb9)
          have CC := Lib.hid (RC.out w9 g9 0 cp9 _ (HW5.out.below (bstep BB.out BT9.out)) BS9)
          clear own hb9 BS9 XC2
          go_wp2_with fail
          refine CC.out.mono ?_
          rintro e w10 ⟨⟨v10, rfl, own⟩, hb10⟩
          have BT10 := Lib.hid (BX.out.trans ((bstep BB.out (bstep BT9.out hb10)).mono SX))
          have O10 : Hid (Own w10 w.heap.size v10 (bl (tg (kW K) M n) 16)) := Lib.hid (by
            rw [← HWE.out, GE.out, ← EQ.out]
            exact own.le (Nat.le_trans SX (bstep BB.out BT9.out).size))
          clear own hb10 CC
          go_wp2_with fail
          go_ret2
          exact ⟨⟨_, rfl, O10.out⟩, BT10.out⟩
        · obtain ⟨p11, c11, ve⟩ := Own.len OC.out
          rw [bl_len] at ve
          subst ve
          have e1 : decide ((k : Int) < 16) = true := by rw [decide_eq_true_iff]; omega
          obtain ⟨v2, w2, hr, ho, hb2, hs2⟩ := app1 OC.out 128 BC.out.size (by rw [bl_len]; omega) 26
          rw [← bl_pd] at ho
          have HR := Lib.hid hr
          have HO := Lib.hid ho
          have B2 := Lib.hid (BC.out.trans hb2)
          clear hr ho OC hb2 hs2
          go_wp2_with (at_builtin; refine wpList_append_eq rfl _ _ 26 rfl _ _ v2 w2 rfl rfl HR.out ?_)
          go_loopw [11] (fun v wt => ∃ j, k < j ∧ j ≤ 16 ∧ (∃ p c, v = .slice p j c) ∧ Own wt wr.heap.size v (bl (pd F k) j) ∧ Below wr.heap.size wr wt) (fun v _ => 16 - sl v)
          case atStart =>
            refine ⟨k + 1, by omega, by omega, ?_, HO.out, B2.out⟩
            obtain ⟨p, c, e⟩ := Own.len HO.out
            rw [bl_len] at e
            exact ⟨p, c, e⟩
          case round =>
            clear HO B2 HR
            obtain ⟨j, hj1, hj2, ⟨pj, cj, rfl⟩, oj, bj⟩ := hrel
            rename World => wt
            have OJ := Lib.hid oj
            have BJ := Lib.hid bj
            clear oj bj
            by_cases cj16 : j < 16
            · have e2 : decide ((j : Int) < 16) = true := by rw [decide_eq_true_iff]; omega
              obtain ⟨v3, w3', hr, ho, hb3, hs3⟩ := app1 OJ.out 0 BJ.out.size (by rw [bl_len]; omega) 26
              rw [← bl_pd0 F k j hj1] at ho
              have HR := Lib.hid hr
              have HO := Lib.hid ho
              have B3 := Lib.hid (BJ.out.trans hb3)
              obtain ⟨p, c, e⟩ := Own.len ho
              rw [bl_len] at e
              have HE := Lib.hid e
              clear hr ho hb3 e hs3
              go_wp2_with (at_builtin; refine wpList_append_eq rfl _ _ 26 rfl _ _ v3 w3' rfl rfl HR.out ?_)
              go_roundw
              case rel => exact ⟨j + 1, by omega, by omega, ⟨p, c, HE.out⟩, HO.out, B3.out⟩
              case measure =>
                rw [HE.out]
                simp [sl]; omega
            · have e2 : decide ((j : Int) < 16) = false := by rw [decide_eq_false_iff_not]; omega
              obtain rfl : j = 16 := by omega
              have PL := Lib.hid (fun i => pd_lt (f := F) (n := k) (fun i _ => FL.out i) i)
              obtain ⟨g11, c11', ve, hg11, BS11, y1, y2⟩ := OwnB OJ.out (by omega) PL.out
              simp only [Value.slice.injEq, true_and] at ve
              obtain ⟨rfl, rfl⟩ := ve
              have LB11 := Lib.hid BS11
              have KB := Lib.hid ((K2.out.below BB.out).below BJ.out)
              clear OJ BS11 e1
              have XC := Lib.hid (rxor_c g11 0 16 cj g4 0 16 cp4 (pd F k) (dbl (sk W)) wt LB11.out KB.out (by omega) (by omega) (by omega) (by omega))
              have EQ : Hid (bl (enc W (xr (cs W M t) (xr (pd F k) (dbl (sk W))))) 16 = bl (enc W (xr (cs W M t) (lbk W F k))) 16) := Lib.hid (bl_congr (fun i hi => enc_congr (fun _ _ => rfl) (fun i hi => by
                show cs W M t i ^^^ (pd F k i ^^^ dbl (sk W) i) = cs W M t i ^^^ (pd F k i ^^^ (if k = 16 then sk W else dbl (sk W)) i)
                rw [if_neg ck]) i hi))
              go_wp2_with fail
              refine XC.out.mono ?_
              rintro e w8 ⟨⟨v8, rfl, own⟩, hb8⟩
              obtain ⟨g8, cp8, rfl, hg8, BS8, z1, z2⟩ := OwnB own (by omega) (xr_lt PL.out (dbl_all SKL.out))
              have SB8 := Lib.hid ((SB.out.below BJ.out).below hb8)
              have BT8 := Lib.hid (bstep BJ.out hb8)
              have XC2 := Lib.hid (rxor_c gs 0 16 cps g8 0 16 cp8 (cs W M t) (xr (pd F k) (dbl (sk W))) w8 SB8.out BS8 (by omega) (by omega) (by omega) (by omega))
              clear own hb8 BS8 XC
              go_wp2_with fail
              refine XC2.out.mono ?_
              rintro e w9 ⟨⟨v9, rfl, own⟩, hb9⟩
              obtain ⟨g9, cp9, rfl, hg9, BS9, z3, z4⟩ := OwnB own (by omega) (xr_lt CSL.out (xr_lt PL.out (dbl_all SKL.out)))
              have BT9 := Lib.hid (bstep BT8.out hb9)
              have CC := Lib.hid (RC.out w9 g9 0 cp9 _ (HW5.out.below (bstep BB.out BT9.out)) BS9)
              clear own hb9 BS9 XC2
              go_wp2_with fail
              refine CC.out.mono ?_
              rintro e w10 ⟨⟨v10, rfl, own⟩, hb10⟩
              have BT10 := Lib.hid (BX.out.trans ((bstep BB.out (bstep BT9.out hb10)).mono SX))
              have O10 : Hid (Own w10 w.heap.size v10 (bl (tg (kW K) M n) 16)) := Lib.hid (by
                rw [← HWE.out, GE.out, ← EQ.out]
                exact own.le (Nat.le_trans SX (bstep BB.out BT9.out).size))
              clear own hb10 CC
              go_wp2_with fail
              go_ret2
              exact ⟨⟨_, rfl, O10.out⟩, BT10.out⟩
end Go.Proofs.YtbbcgcfahaljoaaDoor.Ae
