/-
  The contract of sundialref05.cipher.
  Conditions: round keys and a block are handed in.
  The contracts of aes' lastBlock and of aes.Encipher.
  Conditions: the cipher is the key's.
-/
import Derived.Test.YtbbcgcfahaljoaaDoorAa
import Derived.Test.YtbbcgcfahaljoaaDoorAd
import Derived.Test.YtbbcgcfahaljoaaDoorAc
import Derived.Deep.CutRange
namespace Go.Proofs.YtbbcgcfahaljoaaDoor.Ae
open Go.RowKit By
set_option linter.unusedVariables false
set_option linter.unusedSimpArgs false

theorem bs_eq {w : World} {b o n : Nat} {f g : Nat → Nat} (h : Bs w b o n f) (e : ∀ i, i < n → f i = g i) (hg : ∀ i, g i < 256) : Bs w b o n g :=
  ⟨h.1, hg, fun i hi => by rw [← e i hi]; exact h.2.2 i hi⟩
/-- the block behind r rounds, the last one left out, for rows of bytes whatever. -/
theorem cip_all {W B : Nat → Nat} (hW : ∀ i, W i < 256) (hB : ∀ i, B i < 256) : ∀ r i, cip W B r i < 256
  | 0, i => lt_xor8 (hB i) (hW i)
  | r + 1, i => lt_xor8 (mx_lt (mv_lt _) i) (hW _)

set_option maxRecDepth 100000 in
set_option maxHeartbeats 4000000 in
theorem rcipher_c (b o n cap b2 o2 cap2 : Nat) (W B : Nat → Nat) (w : World) (HW : Bs w b o n W) (hn : n = 176) (hc : 176 ≤ cap) (hm : cap ≤ 9223372036854775807) (HB : Bs w b2 o2 16 B) :
    Calls Tryd.prog 58 #[.slice (some ⟨b, o, none⟩) n cap, .slice (some ⟨b2, o2, none⟩) 16 cap2] w fun e w' => (∃ v, e = .returned v ∧ Own w' w.heap.size v (bl (enc W B) 16)) ∧ Below w.heap.size w w' := by
  subst hn
  have WL := Lib.hid HW.2.1
  have BL := Lib.hid HB.2.1
  have W0 := Lib.hid HW
  have CX := Lib.hid (fun cp => rxor_c b2 o2 16 cap2 b o 16 cp B W w HB (by
    have := HW.part 0 16 (by omega)
    rw [Nat.add_zero] at this
    exact bs_eq this (fun i _ => by rw [Nat.zero_add]) HW.2.1) (by omega) (by omega) (by omega) (by omega))
  clear HW HB
  have i1 : (176 : Int) ≤ (cap : Int) := by omega
  have i2 : (16 : Int) ≤ (cap : Int) := by omega
  have i3 : (cap : Int) ≤ 9223372036854775807 := by omega
  go_enter Tryd.func58, Tryd.ntmps58
  go_wp2_with fail
  refine (CX.out _).mono ?_
  rintro e w1 ⟨⟨s, rfl, own⟩, hb⟩
  have O1 : Hid (Own w1 w.heap.size s (bl (cip W B 0) 16)) := Lib.hid own
  have B1 := Lib.hid hb
  clear own hb CX
  go_wp2_with fail
  go_loopw [5, 6] (fun v i wr => ∃ r m : Nat, m = r + 1 ∧ m ≤ 11 ∧ i = .int .i64 m ∧ Own wr w.heap.size v (bl (if r < 10 then cip W B r else enc W B) 16) ∧ Below w.heap.size w wr) (fun _ i _ => 11 - (intOf i).toNat)
  case atStart => exact ⟨0, 1, rfl, by omega, rfl, O1.out, B1.out⟩
  case round =>
    obtain ⟨r, m, hm0, hk, rfl, own, hb⟩ := hrel
    rename World => wr
    have HM := Lib.hid hm0
    have OW := Lib.hid own
    have B0 := Lib.hid hb
    have SZ := hb.size
    clear own hb O1 B1 hm0
    by_cases c : m ≤ 10
    · have e0 : decide ((m : Int) ≤ 10) = true := by rw [decide_eq_true_iff]; omega
      have r10 : r < 10 := by have := HM.out; omega
      have OWG := OW.out
      rw [if_pos r10] at OWG
      have GL := Lib.hid (cip_all WL.out BL.out r)
      have NX : Hid (∀ i, (if r + 1 < 10 then cip W B (r + 1) else enc W B) i = xr (if m < 10 then mx (mv (cip W B r)) else mv (cip W B r)) (fun i => W (16 * m + i)) i) := Lib.hid (fun i => by
        by_cases c1 : m < 10
        · rw [if_pos (by have := HM.out; omega), if_pos c1, cip_succ, HM.out]
        · have h9 : r = 9 := by have := HM.out; omega
          have h10 : m = 10 := by omega
          subst h9 h10
          rfl)
      generalize cip W B r = G at *
      obtain ⟨g, cp, rfl, hg, BS, h1, h2⟩ := OWG.bsF (fun e => by
        subst e
        rcases OWG.2 with ⟨_, h0⟩ | ⟨g, cap, cur, e, _⟩
        · rw [bl_len] at h0; omega
        · cases e) GL.out
      have MV := Lib.hid (rmoved_c g 0 16 cp G wr BS (by omega) (by omega))
      clear OW OWG BS
      have m0 : (0 : Int) ≤ (m : Int) := by omega
      have m1 : (m : Int) ≤ 10 := by omega
      have MVL := Lib.hid (mv_lt G)
      go_wp2_with fail
      refine MV.out.mono ?_
      rintro e w2 ⟨⟨s2, rfl, own2⟩, hb2⟩
      have C2 := Lib.hid (B0.out.trans (hb2.mono SZ))
      have SZ2 := C2.out.size
      obtain ⟨g2, cp2, rfl, hg2, BS2, h3, h4⟩ := OwnB own2 (by omega) MVL.out
      have BH2 := Lib.hid BS2
      clear own2 hb2 MV BS2
      have KW : Hid (∀ w', Below w.heap.size w w' → Bs w' b (o + 16 * m) 16 (fun i => W (16 * m + i))) := Lib.hid (fun w' k => (W0.out.below k).part (16 * m) 16 (by omega))
      have j1 : 16 * (m : Int) + 16 ≤ (cap : Int) := by omega
      have j2 : 16 * (m : Int) < (cap : Int) := by omega
      have j3 : 16 * (m : Int) ≤ 16 * (m : Int) + 16 := by omega
      have j4 : (16 * (m : Int) + 16).toNat = 16 * m + 16 := by omega
      have j5 : (16 * (m : Int)).toNat = 16 * m := by omega
      have j6 : (0 : Int) ≤ 16 * (m : Int) := by omega
      have j7 : ¬ cap = 16 * m := by omega
      have j8 : (0 : Int) ≤ 16 * (m : Int) + 16 := by omega
      by_cases c1 : m < 10
      · have e1 : decide ((m : Int) < 10) = true := by rw [decide_eq_true_iff]; omega
        rw [if_pos c1] at NX
        have MX := Lib.hid (rmixed_c g2 0 16 cp2 (mv G) w2 BH2.out (by omega) (by omega))
        have MXL := Lib.hid (mx_lt MVL.out)
        go_wp2_with fail
        refine MX.out.mono ?_
        rintro e w3 ⟨⟨s3, rfl, own3⟩, hb3⟩
        have C3 := Lib.hid (C2.out.trans (hb3.mono SZ2))
        have SZ3 := C3.out.size
        obtain ⟨g3, cp3, rfl, hg3, BS3, h5, h6⟩ := OwnB own3 (by omega) MXL.out
        have XC := Lib.hid (fun k' => rxor_c g3 0 16 cp3 b (o + 16 * m) 16 k' (mx (mv G)) (fun i => W (16 * m + i)) w3 BS3 (KW.out w3 C3.out) (by omega) (by omega) (by omega) (by omega))
        clear own3 hb3 MX BS3
        go_wp2_with fail
        refine (XC.out _).mono ?_
        rintro e w4 ⟨⟨s4, rfl, own4⟩, hb4⟩
        have C4 := Lib.hid (C3.out.trans (hb4.mono SZ3))
        have O4 : Hid (Own w4 w.heap.size s4 (bl (if r + 1 < 10 then cip W B (r + 1) else enc W B) 16)) := Lib.hid (by rw [funext NX.out]; exact own4.le SZ3)
        clear own4 hb4 XC
        go_wp2_with fail
        go_roundw
        case rel => exact ⟨r + 1, m + 1, by rw [HM.out], by omega, by go_num, O4.out, C4.out⟩
        case measure => simp [intOf]; omega
      · have e1 : decide ((m : Int) < 10) = false := by rw [decide_eq_false_iff_not]; omega
        rw [if_neg c1] at NX
        have XC := Lib.hid (fun k' => rxor_c g2 0 16 cp2 b (o + 16 * m) 16 k' (mv G) (fun i => W (16 * m + i)) w2 BH2.out (KW.out w2 C2.out) (by omega) (by omega) (by omega) (by omega))
        go_wp2_with fail
        refine (XC.out _).mono ?_
        rintro e w4 ⟨⟨s4, rfl, own4⟩, hb4⟩
        have C4 := Lib.hid (C2.out.trans (hb4.mono SZ2))
        have O4 : Hid (Own w4 w.heap.size s4 (bl (if r + 1 < 10 then cip W B (r + 1) else enc W B) 16)) := Lib.hid (by rw [funext NX.out]; exact own4.le SZ2)
        clear own4 hb4 XC
        go_wp2_with fail
        go_roundw
        case rel => exact ⟨r + 1, m + 1, by rw [HM.out], by omega, by go_num, O4.out, C4.out⟩
        case measure => simp [intOf]; omega
    · have e0 : decide ((m : Int) ≤ 10) = false := by rw [decide_eq_false_iff_not]; omega
      have r10 : ¬ r < 10 := by have := HM.out; omega
      have OE := OW.out
      rw [if_neg r10] at OE
      have HO := Lib.hid OE
      clear OE OW
      go_wp2_with fail
      go_ret
      exact ⟨⟨_, rfl, HO.out⟩, B0.out⟩
end Go.Proofs.YtbbcgcfahaljoaaDoor.Ae
namespace Go.Proofs.YtbbcgcfahaljoaaDoor.Ae
open Go.RowKit By
set_option linter.unusedVariables false
set_option linter.unusedSimpArgs false

theorem mv_congr {s s' : Nat → Nat} (h : ∀ i, i < 16 → s i = s' i) (i : Nat) : mv s i = mv s' i := by
  unfold mv
  rw [h _ (by omega)]
theorem cip_congr {W W' B B' : Nat → Nat} (hW : ∀ i, i < 176 → W i = W' i) (hB : ∀ i, i < 16 → B i = B' i) : ∀ r, r ≤ 9 → ∀ i, i < 16 → cip W B r i = cip W' B' r i
  | 0, _, i, hi => by
    show B i ^^^ W i = B' i ^^^ W' i
    rw [hB i hi, hW i (by omega)]
  | r + 1, hr, i, hi => by
    have e : mv (cip W B r) = mv (cip W' B' r) := funext (mv_congr (cip_congr hW hB r (by omega)))
    rw [cip_succ, cip_succ, e]
    show _ ^^^ W _ = _ ^^^ W' _
    rw [hW _ (by omega)]
theorem enc_congr {W W' B B' : Nat → Nat} (hW : ∀ i, i < 176 → W i = W' i) (hB : ∀ i, i < 16 → B i = B' i) (i : Nat) (hi : i < 16) : enc W B i = enc W' B' i := by
  have e : mv (cip W B 9) = mv (cip W' B' 9) := funext (mv_congr (cip_congr hW hB 9 (by omega)))
  show mv _ i ^^^ W _ = mv _ i ^^^ W' _
  rw [e, hW _ (by omega)]
theorem dbl_congr {f g : Nat → Nat} (h : ∀ i, i < 16 → f i = g i) (i : Nat) (hi : i < 16) : dbl f i = dbl g i := by
  unfold dbl
  rw [h i hi, h 0 (by omega)]
  by_cases c : i < 15
  · rw [h (i + 1) (by omega)]
  · rw [if_neg c, if_neg c]
/-- the first subkey. -/
def sk (W : Nat → Nat) : Nat → Nat := dbl (enc W (fun _ => 0))
/-- a last block of n bytes, padded where it isn't whole. -/
def pd (f : Nat → Nat) (n i : Nat) : Nat := if i < n then f i else if i = n then 128 else 0
/-- what a tag's chain ends with. -/
def lbk (W f : Nat → Nat) (n : Nat) : Nat → Nat := xr (pd f n) (if n = 16 then sk W else dbl (sk W))
theorem dbl_lt16 {f : Nat → Nat} (hf : ∀ i, i < 16 → f i < 256) (i : Nat) (hi : i < 16) : dbl f i < 256 := by
  have h : ∀ j, (fun j => if j < 16 then f j else 0) j < 256 := fun j => by
    show (if j < 16 then f j else 0) < 256
    split
    · exact hf j (by assumption)
    · omega
  have e : dbl f i = dbl (fun j => if j < 16 then f j else 0) i := dbl_congr (fun j hj => by rw [if_pos hj]) i hi
  rw [e]
  exact dbl_lt h i
theorem sk_lt {W : Nat → Nat} (hW : ∀ i, i < 176 → W i < 256) (i : Nat) (hi : i < 16) : sk W i < 256 := dbl_lt16 (fun j hj => enc_lt hW j hj) i hi
theorem pd_lt {f : Nat → Nat} {n : Nat} (hf : ∀ i, i < n → f i < 256) (i : Nat) : pd f n i < 256 := by
  unfold pd
  split
  · exact hf i (by assumption)
  · split <;> omega
theorem lbk_lt {W f : Nat → Nat} {n : Nat} (hW : ∀ i, i < 176 → W i < 256) (hf : ∀ i, i < n → f i < 256) (i : Nat) (hi : i < 16) : lbk W f n i < 256 := by
  refine lt_xor8 (pd_lt hf i) ?_
  split
  · exact sk_lt hW i hi
  · exact dbl_lt16 (fun j hj => sk_lt hW j hj) i hi
/-- what a region leans on that loads one block and writes another. -/
def En3 (w0 : World) (b t : Nat) (H : Nat → Nat) (w : World) : Prop :=
  w.rangeAt b 0 (ac H 16) ∧ w.there t 0 16 ∧ b < w.heap.size ∧ t < w.heap.size ∧ Below t w0 w
theorem En3.call {w0 : World} {b t : Nat} {H : Nat → Nat} {w1 w2 : World} (h : En3 w0 b t H w1) (k : Below w1.heap.size w1 w2) : En3 w0 b t H w2 :=
  ⟨range_below h.1 h.2.2.1 k, there_below h.2.1 h.2.2.2.1 k, Nat.lt_of_lt_of_le h.2.2.1 k.size, Nat.lt_of_lt_of_le h.2.2.2.1 k.size, h.2.2.2.2.trans (k.mono (Nat.le_of_lt h.2.2.2.1))⟩
theorem En3.store {w0 : World} {b t : Nat} {H X : Nat → Nat} {w1 : World} (h : En3 w0 b t H w1) (hb : b ≠ t) : En3 w0 b t H (w1.setCells t 0 (ac X 16)) :=
  have hs := (belowCells (B := 0) t (Nat.zero_le _) (ac X 16) 0 w1 (Below.refl _ _)).size
  ⟨World.rangeAt_setCells_apart h.1 _ _ _ (.inl hb), World.there_setCells h.2.1 _ _ _, Nat.lt_of_lt_of_le h.2.2.1 hs, Nat.lt_of_lt_of_le h.2.2.2.1 hs, belowCells t (Nat.le_refl _) _ 0 _ h.2.2.2.2⟩
theorem En3.here {w0 : World} {b t : Nat} {H X : Nat → Nat} {w1 : World} (h : En3 w0 b t H w1) (hX : ∀ i, i < 16 → X i < 256) :
    Ay (w1.setCells t 0 (ac X 16)) t 0 16 X ∧ Below t w0 (w1.setCells t 0 (ac X 16)) := ⟨Ay.mk_cells h.2.2.2.1 h.2.1 hX, belowCells t (Nat.le_refl _) _ 0 _ h.2.2.2.2⟩
/-- a block that is made and filled. -/
theorem Ay.made (w : World) (g : Nat → Nat) (ty : TypeId) (hg : ∀ i, i < 16 → g i < 256) : Ay ((w.alloc (.cells #[.int .u8 0, .int .u8 0, .int .u8 0, .int .u8 0, .int .u8 0, .int .u8 0, .int .u8 0, .int .u8 0, .int .u8 0, .int .u8 0, .int .u8 0, .int .u8 0, .int .u8 0, .int .u8 0, .int .u8 0, .int .u8 0] ty)).setCells w.heap.size 0 (ac g 16)) w.heap.size 0 16 g ∧ Below w.heap.size w ((w.alloc (.cells #[.int .u8 0, .int .u8 0, .int .u8 0, .int .u8 0, .int .u8 0, .int .u8 0, .int .u8 0, .int .u8 0, .int .u8 0, .int .u8 0, .int .u8 0, .int .u8 0, .int .u8 0, .int .u8 0, .int .u8 0, .int .u8 0] ty)).setCells w.heap.size 0 (ac g 16)) ∧
    (storeCells ⟨w.heap.size, 0, none⟩ (ac g 16)).run Tryd.prog (w.alloc (.cells #[.int .u8 0, .int .u8 0, .int .u8 0, .int .u8 0, .int .u8 0, .int .u8 0, .int .u8 0, .int .u8 0, .int .u8 0, .int .u8 0, .int .u8 0, .int .u8 0, .int .u8 0, .int .u8 0, .int .u8 0, .int .u8 0] ty)) = .ok () ((w.alloc (.cells #[.int .u8 0, .int .u8 0, .int .u8 0, .int .u8 0, .int .u8 0, .int .u8 0, .int .u8 0, .int .u8 0, .int .u8 0, .int .u8 0, .int .u8 0, .int .u8 0, .int .u8 0, .int .u8 0, .int .u8 0, .int .u8 0] ty)).setCells w.heap.size 0 (ac g 16)) := by
  have h : Ay (w.alloc (.cells #[.int .u8 0, .int .u8 0, .int .u8 0, .int .u8 0, .int .u8 0, .int .u8 0, .int .u8 0, .int .u8 0, .int .u8 0, .int .u8 0, .int .u8 0, .int .u8 0, .int .u8 0, .int .u8 0, .int .u8 0, .int .u8 0] ty)) w.heap.size 0 16 (fun _ => 0) := Ay.new0 w 16 ty
  exact ⟨Ay.mk_cells h.1 h.there hg, belowCells _ (Nat.le_refl _) _ 0 _ (balloc (brefl w) _), run_store_ac h.there g⟩

set_option maxRecDepth 100000 in
set_option maxHeartbeats 4000000 in
theorem lastBlock_c (b : Nat) (W f : Nat → Nat) (p : Option Addr) (n cap : Nat) (w : World) (C : Ci w b W) (S : Sl w p n f) (hn : n ≤ 16) (hf : ∀ i, i < n → f i < 256) :
    Calls Tryd.prog 46 #[.pointer (some ⟨b, 0, none⟩), .slice p n cap] w fun e w' => e = .returned (.agg (ac (lbk W f n) 16).toArray) ∧ Below w.heap.size w w' := by
  have WS := Lib.hid (balloc (brefl w) (.cells #[.int .u8 0, .int .u8 0, .int .u8 0, .int .u8 0, .int .u8 0, .int .u8 0, .int .u8 0, .int .u8 0, .int .u8 0, .int .u8 0, .int .u8 0, .int .u8 0, .int .u8 0, .int .u8 0, .int .u8 0, .int .u8 0] 72))
  have R0 : Hid (Ay (w.alloc (.cells #[.int .u8 0, .int .u8 0, .int .u8 0, .int .u8 0, .int .u8 0, .int .u8 0, .int .u8 0, .int .u8 0, .int .u8 0, .int .u8 0, .int .u8 0, .int .u8 0, .int .u8 0, .int .u8 0, .int .u8 0, .int .u8 0] 72)) w.heap.size 0 16 (fun _ => 0)) := Lib.hid (Ay.new0 w 16 72)
  have C0 := Lib.hid (C.below WS.out)
  have S0 := Lib.hid (S.below WS.out)
  have HW := Lib.hid C.2.2.1
  have HF := Lib.hid hf
  have EL := Lib.hid (fun i (hi : i < 16) => enc_lt (B := fun _ => 0) HW.out i hi)
  have SKL := Lib.hid (fun i hi => sk_lt HW.out i hi)
  clear C S hf
  go_enter Tryd.func46, Tryd.ntmps46
  go_wp2_with fail
  generalize w.alloc (.cells #[.int .u8 0, .int .u8 0, .int .u8 0, .int .u8 0, .int .u8 0, .int .u8 0, .int .u8 0, .int .u8 0, .int .u8 0, .int .u8 0, .int .u8 0, .int .u8 0, .int .u8 0, .int .u8 0, .int .u8 0, .int .u8 0] 72) = W0 at *
  have EC := Lib.hid (encipher_c b W (fun _ => 0) W0 C0.out (fun i _ => by simp))
  replace EC : Hid (Calls Tryd.prog 43 #[.pointer (some ⟨b, 0, none⟩), .agg #[.int .u8 0, .int .u8 0, .int .u8 0, .int .u8 0, .int .u8 0, .int .u8 0, .int .u8 0, .int .u8 0, .int .u8 0, .int .u8 0, .int .u8 0, .int .u8 0, .int .u8 0, .int .u8 0, .int .u8 0, .int .u8 0]] W0 fun e w' => e = .returned (.agg (ac (enc W (fun _ => 0)) 16).toArray) ∧ Below W0.heap.size W0 w') := EC
  refine EC.out.mono ?_
  rintro e w1 ⟨rfl, hb1⟩
  have B1 := Lib.hid hb1
  clear hb1 EC
  go_wp2_with fail
  refine (shifted_c _ _ EL.out).mono ?_
  rintro e w2 ⟨rfl, hb2⟩
  have SE : Hid (dbl (enc W (fun _ => 0)) = sk W) := rfl
  rw [SE.out]
  have B2 := Lib.hid (bstep B1.out hb2)
  clear hb2 B1 SE
  obtain ⟨m1, m2, m3⟩ := Ay.made w2 (sk W) 72 SKL.out
  have M1 := Lib.hid m1
  have M2 := Lib.hid (bstep B2.out m2)
  have ST := m3
  have AL : ∀ g, (ac g 16).length = 16 := fun g => ac_len g 16
  clear m1 m2
  go_wp2_with fail
  generalize (w2.alloc (.cells #[.int .u8 0, .int .u8 0, .int .u8 0, .int .u8 0, .int .u8 0, .int .u8 0, .int .u8 0, .int .u8 0, .int .u8 0, .int .u8 0, .int .u8 0, .int .u8 0, .int .u8 0, .int .u8 0, .int .u8 0, .int .u8 0] 72)).setCells w2.heap.size 0 (ac (sk W) 16) = W3 at *
  have L5 : W0.heap.size ≤ w2.heap.size := B2.out.size
  generalize w2.heap.size = g5 at *
  have RL := R0.out.1
  clear ST m3 B2
  refine (toBlock_c p n cap f _ (S0.out.below M2.out) hn HF.out).mono ?_
  rintro e w4 ⟨rfl, hb4⟩
  have PDL := Lib.hid (fun i (_ : i < 16) => (by unfold pad0; split; exact HF.out i (by assumption); omega : pad0 f n i < 256))
  have A5 := Lib.hid (M1.out.below hb4)
  have B4 := Lib.hid (bstep M2.out hb4)
  clear hb4 M1 M2
  obtain ⟨m1, m2, m3⟩ := Ay.made w4 (pad0 f n) 72 PDL.out
  have A6 := Lib.hid m1
  have A5' := Lib.hid (A5.out.below m2)
  have B5 := Lib.hid (bstep B4.out m2)
  have L6 : g5 < w4.heap.size := A5.out.1
  have ST := m3
  clear m1 m2 A5
  have k0 : (0 : Int) ≤ (n : Int) := by omega
  have k1 : (n : Int) ≤ 16 := by omega
  go_upto_region 3 with fail
  generalize (w4.alloc (.cells #[.int .u8 0, .int .u8 0, .int .u8 0, .int .u8 0, .int .u8 0, .int .u8 0, .int .u8 0, .int .u8 0, .int .u8 0, .int .u8 0, .int .u8 0, .int .u8 0, .int .u8 0, .int .u8 0, .int .u8 0, .int .u8 0] 72)).setCells w4.heap.size 0 (ac (pad0 f n) 16) = W5 at *
  clear ST m3
  generalize w4.heap.size = g6 at *
  by_cases c : n = 16
  · subst c
    have R5 := Lib.hid (R0.out.below B5.out)
    have PL := Lib.hid (fun w => plus_c (pad0 f 16) (sk W) w PDL.out SKL.out)
    rw [ac_eq (g := xr (pad0 f 16) (sk W)) (g' := lbk W f 16) (fun i hi => by unfold lbk xr pd pad0; rw [if_pos rfl, if_pos hi, if_pos hi])] at PL
    have LL := Lib.hid (fun i hi => lbk_lt (n := 16) HW.out HF.out i hi)
    go_wp2_with (first | refine wpList_load_mid rfl 72 (.tmp 6) rfl g6 0 rfl (ac (pad0 f 16) 16) _ A6.out.range Tryd.underlying72 rfl (by rw [ac_len]; exact info_blk) ?_ | refine wpList_load_mid rfl 72 (.tmp 5) rfl g5 0 rfl (ac (sk W) 16) _ A5'.out.range Tryd.underlying72 rfl (by rw [ac_len]; exact info_blk) ?_)
    refine (PL.out _).mono ?_
    rintro e w6 ⟨rfl, hb6⟩
    have R6 := Lib.hid (R5.out.below hb6)
    have FI := Lib.hid (Ay.mk_cells (g := lbk W f 16) R6.out.1 R6.out.there LL.out)
    have FB := Lib.hid (belowCells (B := w.heap.size) w.heap.size (Nat.le_refl _) (ac (lbk W f 16) 16) 0 w6 (WS.out.trans ((bstep B5.out hb6).mono (Nat.le_of_lt RL))))
    have SE := run_store_ac (P := Tryd.prog) R6.out.there (lbk W f 16)
    clear hb6
    go_wp2_with fail
    refine bodyPost_ret (v := .agg (ac (lbk W f 16) 16).toArray) (results_cell_mid rfl _ _ w.heap.size _ _ rfl FI.out.range Tryd.underlying72 rfl (by rw [ac_len]; exact info_blk)) rfl ⟨rfl, FB.out⟩
  · have e0 : ((n : Int) == 16) = false := by simp; omega
    have k2 : (n : Int) < 16 := by omega
    obtain ⟨a1, a2⟩ := A6.out.at (i := n) (by omega)
    have A7 := Lib.hid ((A6.out.set0 n 128 (by omega) (by omega)).eq (g' := pd f n) (fun i hi => by
      unfold up pd pad0
      by_cases e : i = n
      · rw [if_pos e, if_neg (by omega), if_pos e]
      · rw [if_neg e]
        by_cases e' : i < n
        · rw [if_pos e', if_pos e']
        · rw [if_neg e', if_neg e', if_neg e]))
    have A5s := Lib.hid (A5'.out.other (b' := g6) (by omega) n (.int .u8 (128 : Nat)))
    have B6 := Lib.hid (B5.out.setCell (p := ⟨g6, n, none⟩) (by show W0.heap.size ≤ g6; omega) (.int .u8 (128 : Nat)))
    clear A6 A5' B5
    go_wp2_with fail
    replace A7 : Hid (Ay (W5.setCell ⟨g6, n, none⟩ (.int .u8 128)) g6 0 16 (pd f n)) := A7
    replace A5s : Hid (Ay (W5.setCell ⟨g6, n, none⟩ (.int .u8 128)) g5 0 16 (sk W)) := A5s
    replace B6 : Hid (Below W0.heap.size W0 (W5.setCell ⟨g6, n, none⟩ (.int .u8 128))) := B6
    generalize W5.setCell ⟨g6, n, none⟩ (.int .u8 128) = W6 at *
    have R6 := Lib.hid (R0.out.below B6.out)
    have DSL := Lib.hid (fun i hi => dbl_lt16 SKL.out i hi)
    have XL := Lib.hid (fun i hi => lbk_lt (n := n) HW.out HF.out i hi)
    have PL := Lib.hid (fun w => plus_c (pd f n) (dbl (sk W)) w (fun i _ => pd_lt HF.out i) DSL.out)
    have LE : Hid (xr (pd f n) (dbl (sk W)) = lbk W f n) := Lib.hid (by unfold lbk; rw [if_neg c])
    rw [LE.out] at PL
    have SH := Lib.hid (fun w => shifted_c (sk W) w SKL.out)
    have TR : W6.drew.rangeAt g5 0 (ac (sk W) 16) := (A5s.out.below (bdrew1 _ _)).range
    have KD : Hid (En3 W6 g6 w.heap.size (pd f n) W6.drew) := Lib.hid ⟨(A7.out.below (bdrew1 _ _)).range, (R6.out.below (bdrew1 _ _)).there, (A7.out.below (bdrew1 _ W6)).1, (R6.out.below (bdrew1 _ W6)).1, bdrew1 _ _⟩
    have NE : g6 ≠ w.heap.size := by omega
    refine wp_region_noPanic ?_
    refine wp_region_held_drew (S := fun w' => En3 W6 g6 w.heap.size (pd f n) w') (by kernel_rfl) KD.out (fun hHeld => ?_)
    refine wpAnyH_take (i := 0) rfl (by kernel_rfl) (by kernel_rfl) (by kernel_rfl) (fun _ _ _ h => h) (yieldsIf_load_mid (by rfl) _ _ rfl _ _ rfl _ _ (fun w h => h.1) Tryd.underlying72 rfl (by rw [ac_len]; exact info_blk)) hHeld ?_
    (try simp only [List.getElem_toArray, List.getElem_cons_succ, List.getElem_cons_zero, Act.put, List.setIfInBounds_toArray, List.set_cons_zero, List.set_cons_succ])
    refine wpAnyH_ready (rs := [1]) (by kernel_rfl) (by simp) (AllReadyH.cons rfl (fun KQ hKQ => ?_) AllReadyH.nil)
    rw [if_pos (by rfl)]
    refine wp_load_mid _ _ rfl _ _ rfl _ _ TR Tryd.underlying72 rfl (by rw [ac_len]; exact info_blk) ?_
    refine hKQ.out _ _ hHeld (fun hH2 => ?_)
    clear hKQ KQ hHeld
    have hHeld := hH2
    clear hH2
    (try simp only [List.getElem_toArray, List.getElem_cons_succ, List.getElem_cons_zero, Act.put, List.setIfInBounds_toArray, List.set_cons_zero, List.set_cons_succ])
    refine wpAnyH_ready (rs := [2]) (by kernel_rfl) (by simp) (AllReadyH.cons rfl (fun KQ hKQ => ?_) AllReadyH.nil)
    go_simp
    refine (SH.out _).mono ?_
    rintro e w' ⟨rfl, hb⟩
    replace hHeld := En3.call hHeld hb
    clear hb
    go_wp2_with fail
    refine hKQ.out _ _ hHeld (fun hH2 => ?_)
    clear hKQ KQ hHeld
    have hHeld := hH2
    clear hH2
    (try simp only [List.getElem_toArray, List.getElem_cons_succ, List.getElem_cons_zero, Act.put, List.setIfInBounds_toArray, List.set_cons_zero, List.set_cons_succ])
    refine wpAnyH_ready (rs := [3]) (by kernel_rfl) (by simp) (AllReadyH.cons rfl (fun KQ hKQ => ?_) AllReadyH.nil)
    go_simp
    refine (PL.out _).mono ?_
    rintro e w' ⟨rfl, hb⟩
    replace hHeld := En3.call hHeld hb
    clear hb
    go_wp2_with fail
    refine hKQ.out _ _ hHeld (fun hH2 => ?_)
    clear hKQ KQ hHeld
    have hHeld := hH2
    clear hH2
    (try simp only [List.getElem_toArray, List.getElem_cons_succ, List.getElem_cons_zero, Act.put, List.setIfInBounds_toArray, List.set_cons_zero, List.set_cons_succ])
    refine wpAnyH_ready (rs := [4]) (by kernel_rfl) (by simp) (AllReadyH.cons rfl (fun KQ hKQ => ?_) AllReadyH.nil)
    rw [if_pos (by rfl)]
    refine wp_store_mid _ _ _ rfl _ _ (ac (lbk W f n) 16).toArray rfl rfl (by rw [ac_size]; exact hHeld.2.1) (by rw [ac_size]; exact info_blk) (ac_one _ 16) ?_
    rw [List.toList_toArray]
    have EN := Lib.hid (En3.here (X := lbk W f n) hHeld XL.out)
    refine hKQ.out _ _ (En3.store hHeld NE) (fun hH2 => ?_)
    clear hKQ KQ hHeld hH2
    (try simp only [List.getElem_toArray, List.getElem_cons_succ, List.getElem_cons_zero, Act.put, List.setIfInBounds_toArray, List.set_cons_zero, List.set_cons_succ])
    refine wpAnyH_done (by kernel_rfl) ?_ _
    refine NoPanic.normal ?_
    obtain ⟨f1, f2⟩ := EN.out
    have FI := Lib.hid f1
    have FB := Lib.hid (WS.out.trans ((B6.out.mono (Nat.le_of_lt RL)).trans f2))
    clear f1 f2 EN
    go_wp2_with fail
    refine bodyPost_ret (v := .agg (ac (lbk W f n) 16).toArray) (results_cell_mid rfl _ _ w.heap.size _ _ rfl FI.out.range Tryd.underlying72 rfl (by rw [ac_len]; exact info_blk)) rfl ⟨rfl, FB.out⟩

end Go.Proofs.YtbbcgcfahaljoaaDoor.Ae
