/-
  A round key out of the one ahead, in numbers; the contract of aes' nextKey.
  Conditions: the cipher's table is S.
  A block enciphered, in numbers; the contract of aes' encipher.
  Conditions: the cipher's table is S, its keys are the key's.
  The key schedule; the contract of aes.newCipher.
  Conditions: a key of sixteen bytes is handed in.
-/
import Derived.Test.YtbbcgcfahaljoaaDoorAb
import Derived.Test.YtbbcgcfahaljoaaDoorAc
namespace Go.Proofs.YtbbcgcfahaljoaaDoor.Ae
open Go.RowKit By
set_option linter.unusedVariables false
set_option linter.unusedSimpArgs false

/-- what the first word takes in. -/
def ah (k : Nat → Nat) (s i : Nat) : Nat := if i = 0 then sbox (k 13) ^^^ s else if i = 1 then sbox (k 14) else if i = 2 then sbox (k 15) else sbox (k 12)
/-- the next round key. -/
def nk (k : Nat → Nat) (s : Nat) : Nat → Nat
  | 0 => k 0 ^^^ ah k s 0
  | 1 => k 1 ^^^ ah k s 1
  | 2 => k 2 ^^^ ah k s 2
  | 3 => k 3 ^^^ ah k s 3
  | i + 4 => k (i + 4) ^^^ nk k s i
def av (k : Nat → Nat) (s i : Nat) : Nat := if i < 4 then ah k s i else nk k s (i - 4)
theorem ah_lt {k : Nat → Nat} {s : Nat} (hs : s < 256) (i : Nat) : ah k s i < 256 := by
  unfold ah
  split
  · exact lt_xor8 (sbox_lt _) hs
  · split
    · exact sbox_lt _
    · split <;> exact sbox_lt _
theorem nk_av (k : Nat → Nat) (s : Nat) : ∀ i, nk k s i = k i ^^^ av k s i
  | 0 => rfl
  | 1 => rfl
  | 2 => rfl
  | 3 => rfl
  | i + 4 => by
    unfold av
    rw [if_neg (by omega)]
    rfl
theorem nk_lt {k : Nat → Nat} {s : Nat} (hk : ∀ i, i < 16 → k i < 256) (hs : s < 256) : ∀ i, i < 16 → nk k s i < 256
  | 0, _ => lt_xor8 (hk 0 (by omega)) (ah_lt hs 0)
  | 1, _ => lt_xor8 (hk 1 (by omega)) (ah_lt hs 1)
  | 2, _ => lt_xor8 (hk 2 (by omega)) (ah_lt hs 2)
  | 3, _ => lt_xor8 (hk 3 (by omega)) (ah_lt hs 3)
  | i + 4, h => lt_xor8 (hk (i + 4) h) (nk_lt hk hs i (by omega))
theorem av_lt {k : Nat → Nat} {s : Nat} (hk : ∀ i, i < 16 → k i < 256) (hs : s < 256) (i : Nat) (hi : i < 20) : av k s i < 256 := by
  unfold av
  split
  · exact ah_lt hs i
  · exact nk_lt hk hs _ (by omega)

set_option maxRecDepth 100000 in
set_option maxHeartbeats 4000000 in
theorem nextKey_c (b : Nat) (k : Nat → Nat) (s : Nat) (w : World) (C : Ay w b 0 256 sbox) (hk : ∀ i, i < 16 → k i < 256) (hs : s < 256) :
    Calls Tryd.prog 65 #[.pointer (some ⟨b, 0, none⟩), .agg (ac k 16).toArray, .int .u8 s] w fun e w' => e = .returned (.agg (ac (nk k s) 16).toArray) ∧ Below w.heap.size w w' := by
  have WS := Lib.hid (balloc (balloc (brefl w) (.cells (ac k 16).toArray 72)) (.cells #[.int .u8 0, .int .u8 0, .int .u8 0, .int .u8 0, .int .u8 0, .int .u8 0, .int .u8 0, .int .u8 0, .int .u8 0, .int .u8 0, .int .u8 0, .int .u8 0, .int .u8 0, .int .u8 0, .int .u8 0, .int .u8 0] 72))
  have A0 := Lib.hid ((Ay.newC w 16 k 72 hk).below (balloc (brefl _) (.cells #[.int .u8 0, .int .u8 0, .int .u8 0, .int .u8 0, .int .u8 0, .int .u8 0, .int .u8 0, .int .u8 0, .int .u8 0, .int .u8 0, .int .u8 0, .int .u8 0, .int .u8 0, .int .u8 0, .int .u8 0, .int .u8 0] 72)))
  have R0 := Lib.hid (Ay.new0 (w.alloc (.cells (ac k 16).toArray 72)) 16 72)
  rw [sz_alloc] at R0
  replace R0 : Hid (Ay ((w.alloc (.cells (ac k 16).toArray 72)).alloc (.cells #[.int .u8 0, .int .u8 0, .int .u8 0, .int .u8 0, .int .u8 0, .int .u8 0, .int .u8 0, .int .u8 0, .int .u8 0, .int .u8 0, .int .u8 0, .int .u8 0, .int .u8 0, .int .u8 0, .int .u8 0, .int .u8 0] 72)) (w.heap.size + 1) 0 16 (fun _ => 0)) := R0
  have C0 := Lib.hid (C.below WS.out)
  have CL := C.1
  have HK := Lib.hid hk
  have HS := Lib.hid hs
  clear hk C
  go_enter Tryd.func65, Tryd.ntmps65
  go_wp2_with fail
  generalize ((w.alloc (.cells (ac k 16).toArray 72)).alloc (.cells #[.int .u8 0, .int .u8 0, .int .u8 0, .int .u8 0, .int .u8 0, .int .u8 0, .int .u8 0, .int .u8 0, .int .u8 0, .int .u8 0, .int .u8 0, .int .u8 0, .int .u8 0, .int .u8 0, .int .u8 0, .int .u8 0] 72)) = W0 at *
  obtain ⟨a12, _⟩ := A0.out.at (i := 12) (by omega)
  obtain ⟨a13, _⟩ := A0.out.at (i := 13) (by omega)
  obtain ⟨a14, _⟩ := A0.out.at (i := 14) (by omega)
  obtain ⟨a15, _⟩ := A0.out.at (i := 15) (by omega)
  have l12 := HK.out 12 (by omega)
  have l13 := HK.out 13 (by omega)
  have l14 := HK.out 14 (by omega)
  have l15 := HK.out 15 (by omega)
  obtain ⟨s12, _⟩ := C0.out.at l12
  obtain ⟨s13, _⟩ := C0.out.at l13
  obtain ⟨s14, _⟩ := C0.out.at l14
  obtain ⟨s15, _⟩ := C0.out.at l15
  have XO := xor8 (sbox (k 13)) s (sbox_lt _) hs
  have AH : Hid (ah k s 0 = sbox (k 13) ^^^ s ∧ ah k s 1 = sbox (k 14) ∧ ah k s 2 = sbox (k 15) ∧ ah k s 3 = sbox (k 12)) := Lib.hid ⟨rfl, rfl, rfl, rfl⟩
  obtain ⟨h0, h1, h2, h3⟩ := AH.out
  rw [← h0] at XO
  rw [← h1] at s14
  rw [← h2] at s15
  rw [← h3] at s12
  clear h0 h1 h2 h3 AH
  have AN := Lib.hid (fun i => ah_lt (k := k) hs i)
  have AX : Hid (∃ q : Nat → Nat, q = ah k s) := ⟨_, rfl⟩
  obtain ⟨q, hq⟩ := AX.out
  rw [← hq] at XO s14 s15 s12 AN
  have HQ := Lib.hid hq
  clear AX hq
  have KP : Hid (∀ w', Below W0.heap.size W0 w' → w'.cell? ⟨w.heap.size, 12, none⟩ = some (.int .u8 (k 12)) ∧ w'.cell? ⟨w.heap.size, 13, none⟩ = some (.int .u8 (k 13)) ∧ w'.cell? ⟨w.heap.size, 14, none⟩ = some (.int .u8 (k 14)) ∧ w'.cell? ⟨w.heap.size, 15, none⟩ = some (.int .u8 (k 15)) ∧
      w'.cell? ⟨b, k 12, none⟩ = some (.int .u8 (q 3)) ∧ w'.cell? ⟨b, k 13, none⟩ = some (.int .u8 (sbox (k 13))) ∧ w'.cell? ⟨b, k 14, none⟩ = some (.int .u8 (q 1)) ∧ w'.cell? ⟨b, k 15, none⟩ = some (.int .u8 (q 2))) := Lib.hid (fun w' D =>
    ⟨(D.cell (p := ⟨w.heap.size, 12, none⟩) A0.out.1).trans a12, (D.cell (p := ⟨w.heap.size, 13, none⟩) A0.out.1).trans a13, (D.cell (p := ⟨w.heap.size, 14, none⟩) A0.out.1).trans a14, (D.cell (p := ⟨w.heap.size, 15, none⟩) A0.out.1).trans a15,
     (D.cell (p := ⟨b, k 12, none⟩) C0.out.1).trans s12, (D.cell (p := ⟨b, k 13, none⟩) C0.out.1).trans s13, (D.cell (p := ⟨b, k 14, none⟩) C0.out.1).trans s14, (D.cell (p := ⟨b, k 15, none⟩) C0.out.1).trans s15⟩)
  clear a12 a13 a14 a15 s12 s13 s14 s15
  generalize hx : sbox (k 13) = sx13 at *
  clear hx
  generalize k 12 = x12 at *
  generalize k 13 = x13 at *
  generalize k 14 = x14 at *
  generalize k 15 = x15 at *
  have i12 : (x12 : Int) < 256 := by omega
  have i13 : (x13 : Int) < 256 := by omega
  have i14 : (x14 : Int) < 256 := by omega
  have i15 : (x15 : Int) < 256 := by omega
  go_region_held3 (fun w' => w'.cell? ⟨w.heap.size, 12, none⟩ = some (.int .u8 x12) ∧ w'.cell? ⟨w.heap.size, 13, none⟩ = some (.int .u8 x13) ∧ w'.cell? ⟨w.heap.size, 14, none⟩ = some (.int .u8 x14) ∧ w'.cell? ⟨w.heap.size, 15, none⟩ = some (.int .u8 x15) ∧
      w'.cell? ⟨b, x12, none⟩ = some (.int .u8 (q 3)) ∧ w'.cell? ⟨b, x13, none⟩ = some (.int .u8 sx13) ∧ w'.cell? ⟨b, x14, none⟩ = some (.int .u8 (q 1)) ∧ w'.cell? ⟨b, x15, none⟩ = some (.int .u8 (q 2)))
    (first | (refine KP.out _ ?_; repeat (first | exact brefl _ | refine balloc ?_ _ | refine bdr ?_ | (refine Below.setCell ?_ (by simp) _))))
    (fail)
  have Q0 : Hid (Ay ((W0.alloc (.cells #[.int .u8 (q 0), .int .u8 (q 1), .int .u8 (q 2), .int .u8 (q 3)] 104)).drew) W0.heap.size 0 4 q) := Lib.hid ((Ay.newA W0 4 q #[.int .u8 (q 0), .int .u8 (q 1), .int .u8 (q 2), .int .u8 (q 3)] 104 (fun i _ => AN.out i) (fun i hi => by
    match i, hi with
    | 0, _ => rfl
    | 1, _ => rfl
    | 2, _ => rfl
    | 3, _ => rfl)).below (bdrew1 _ _))
  have B1 := Lib.hid ((balloc (brefl W0) (.cells #[.int .u8 (q 0), .int .u8 (q 1), .int .u8 (q 2), .int .u8 (q 3)] 104)).trans (bdrew1 _ _))
  have A1 := Lib.hid (A0.out.below B1.out)
  have R1 := Lib.hid (R0.out.below B1.out)
  have WT := Lib.hid (WS.out.trans (B1.out.mono WS.out.size))
  have GL := R0.out.1
  have NK := Lib.hid (fun i => nk_av k s i)
  have AVL := Lib.hid (fun i (hi : i < 20) => av_lt HK.out HS.out i hi)
  have QA : Hid (∀ i, 0 ≤ i → i < 0 + 4 → q (i % 4) = av k s i) := Lib.hid (fun i _ hi => by
    rw [HQ.out]
    unfold av
    rw [if_pos (by omega), Nat.mod_eq_of_lt (by omega)])
  go_wp2_with fail
  generalize (W0.alloc (.cells #[.int .u8 (q 0), .int .u8 (q 1), .int .u8 (q 2), .int .u8 (q 3)] 104)).drew = W1 at *
  generalize W0.heap.size = g at *
  clear KP
  go_loopw [40] (fun i wr => ∃ m : Nat, m ≤ 16 ∧ i = .int .i64 m ∧ Ay wr w.heap.size 0 16 (fun i => if i < m then nk k s i else k i) ∧ (∃ h : Nat → Nat, Ay wr g 0 4 h ∧ ∀ i, m ≤ i → i < m + 4 → h (i % 4) = av k s i) ∧ Ay wr (w.heap.size + 1) 0 16 (fun _ => 0) ∧ Below w.heap.size w wr) (fun i _ => 16 - (intOf i).toNat)
  case atStart => exact ⟨0, by omega, rfl, A1.out.eq (by simp), ⟨q, Q0.out, QA.out⟩, R1.out, WT.out⟩
  case round =>
    obtain ⟨m, hk, rfl, ar, ⟨h, qr, hh⟩, rr, hb⟩ := hrel
    rename World => wr
    have AR := Lib.hid ar
    have QR := Lib.hid qr
    have HH := Lib.hid hh
    have RR := Lib.hid rr
    have BB := Lib.hid hb
    clear ar qr hh rr hb
    by_cases c : m < 16
    · have e0 : decide ((m : Int) < 16) = true := by rw [decide_eq_true_iff]; omega
      have ql : m % 4 < 4 := Nat.mod_lt _ (by omega)
      obtain ⟨a1, a2⟩ := AR.out.at c
      rw [if_neg (Nat.lt_irrefl _)] at a1
      obtain ⟨q1, q2⟩ := QR.out.at ql
      have HM := HH.out m (Nat.le_refl _) (by omega)
      rw [HM] at q1
      have x1 := HK.out m c
      have x2 := AVL.out m (by omega)
      have XO := xor8 (k m) (av k s m) x1 x2
      rw [← NK.out m] at XO
      have NL : nk k s m < 256 := by rw [NK.out m]; exact lt_xor8 x1 x2
      have T1 := Lib.hid (((AR.out.set0 m (nk k s m) c NL).other (b' := g) (by omega) (m % 4) (.int .u8 ((nk k s m : Nat) : Int))).below (bdrew1 _ _))
      have T2 := Lib.hid (((QR.out.other (b' := w.heap.size) (by omega) m (.int .u8 ((nk k s m : Nat) : Int))).set0 (m % 4) (nk k s m) ql NL).below (bdrew1 _ _))
      have T3 := Lib.hid (((RR.out.other (b' := w.heap.size) (by omega) m (.int .u8 ((nk k s m : Nat) : Int))).other (b' := g) (by omega) (m % 4) (.int .u8 ((nk k s m : Nat) : Int))).below (bdrew1 _ _))
      have HT4 := Lib.hid (((BB.out.setCell (p := ⟨w.heap.size, m, none⟩) (Nat.le_refl _) (.int .u8 ((nk k s m : Nat) : Int))).setCell (p := ⟨g, m % 4, none⟩) (show w.heap.size ≤ g by omega) (.int .u8 ((nk k s m : Nat) : Int))).trans (bdrew1 _ _))
      have UA : Hid (∀ i, i < 16 → up (fun i => if i < m then nk k s i else k i) m (nk k s m) i = if i < m + 1 then nk k s i else k i) := Lib.hid (fun i hi => by
        unfold up
        by_cases e : i = m
        · subst e; simp
        · rw [if_neg e]
          show (if i < m then nk k s i else k i) = _
          by_cases e' : i < m
          · rw [if_pos e', if_pos (by omega)]
          · rw [if_neg e', if_neg (by omega)])
      have UQ : Hid (∀ i, m + 1 ≤ i → i < m + 1 + 4 → up h (m % 4) (nk k s m) (i % 4) = av k s i) := Lib.hid (fun i h1 h2 => by
        unfold up
        by_cases e : i = m + 4
        · subst e
          rw [if_pos (by omega)]
          unfold av
          rw [if_neg (by omega)]
          rfl
        · rw [if_neg (by omega)]
          exact HH.out i (by omega) (by omega))
      have d1 : (m : Int).tmod 4 = ((m % 4 : Nat) : Int) := by rw [Int.tmod_eq_emod_of_nonneg (by omega)]; omega
      have ne1 : ¬ g = w.heap.size := by omega
      have ne2 : ¬ w.heap.size = g := by omega
      clear HM
      generalize nk k s m = z at *
      generalize av k s m = y at *
      generalize k m = x at *
      generalize m % 4 = p at *
      have k0 : (0 : Int) ≤ (m : Int) := by omega
      have k1 : (m : Int) < 16 := by omega
      have p1 : (p : Int) < 4 := by omega
      go_wp2_with fail
      go_region
      go_wp2_with fail
      exact ⟨⟨m + 1, by omega, by go_num, T1.out.eq UA.out, ⟨_, T2.out, UQ.out⟩, T3.out, HT4.out⟩, by simp [intOf]; omega⟩
    · have e0 : decide ((m : Int) < 16) = false := by rw [decide_eq_false_iff_not]; omega
      obtain rfl : m = 16 := by omega
      have AW := Lib.hid (AR.out.eq (g' := nk k s) (fun i hi => by simp [hi]))
      have VL : ∀ i, i < 16 → nk k s i < 256 := AW.out.2.1
      have FI := Lib.hid (Ay.mk_cells (g := nk k s) RR.out.1 RR.out.there VL)
      have FB := Lib.hid (belowCells (B := w.heap.size) (w.heap.size + 1) (by omega) (ac (nk k s) 16) 0 wr BB.out)
      have SE := run_store_ac (P := Tryd.prog) RR.out.there (nk k s)
      go_wp2_with (refine wpList_load_mid rfl 72 _ rfl _ 0 rfl (ac (nk k s) 16) _ AW.out.range Tryd.underlying72 rfl (by rw [ac_len]; exact info_blk) ?_)
      refine bodyPost_ret (v := .agg (ac (nk k s) 16).toArray) (results_cell_mid rfl _ _ (w.heap.size + 1) _ _ rfl FI.out.range Tryd.underlying72 rfl (by rw [ac_len]; exact info_blk)) rfl ⟨rfl, FB.out⟩
end Go.Proofs.YtbbcgcfahaljoaaDoor.Ae
namespace Go.Proofs.YtbbcgcfahaljoaaDoor.Ae
open Go.RowKit By
set_option linter.unusedVariables false
set_option linter.unusedSimpArgs false

/-- the block behind r rounds, the last one left out. -/
def cip (W B : Nat → Nat) : Nat → Nat → Nat
  | 0 => xr B W
  | r + 1 => xr (mx (mv (cip W B r))) (fun i => W (16 * (r + 1) + i))
theorem cip_zero (W B : Nat → Nat) : cip W B 0 = xr B W := rfl
theorem cip_succ (W B : Nat → Nat) (r : Nat) : cip W B (r + 1) = xr (mx (mv (cip W B r))) (fun i => W (16 * (r + 1) + i)) := rfl
/-- a block enciphered by round keys. -/
def enc (W B : Nat → Nat) : Nat → Nat := xr (mv (cip W B 9)) (fun i => W (160 + i))
/-- a cipher in memory. -/
def Ci (w : World) (b : Nat) (W : Nat → Nat) : Prop := Ay w b 0 256 sbox ∧ Ay w b 256 176 W
theorem Ci.below {w w' : World} {b : Nat} {W : Nat → Nat} (h : Ci w b W) (k : Below w.heap.size w w') : Ci w' b W := ⟨h.1.below k, h.2.below k⟩
theorem Ay.part {w : World} {b o n : Nat} {g : Nat → Nat} (h : Ay w b o n g) (p m : Nat) (hm : p + m ≤ n) : Ay w b (o + p) m (fun i => g (p + i)) :=
  ⟨h.1, fun i hi => h.2.1 (p + i) (by omega), fun i hi => by rw [Nat.add_assoc]; exact h.2.2 (p + i) (by omega)⟩
theorem mx_lt16 {s : Nat → Nat} (hs : ∀ i, i < 16 → s i < 256) (i : Nat) (hi : i < 16) : mx s i < 256 := by
  have h : ∀ k, k ≤ 4 → mxs s i k < 256 := by
    intro k
    induction k with
    | zero => intro _; show 0 < 256; omega
    | succ k ih => intro hk; exact lt_xor8 (ih (by omega)) (gm_lt (hs _ (by omega)))
  exact h 4 (by omega)
theorem cip_lt {W B : Nat → Nat} (hW : ∀ i, i < 176 → W i < 256) (hB : ∀ i, i < 16 → B i < 256) : ∀ r, r ≤ 9 → ∀ i, i < 16 → cip W B r i < 256
  | 0, _, i, hi => lt_xor8 (hB i hi) (hW i (by omega))
  | r + 1, hr, i, hi => lt_xor8 (mx_lt16 (fun j _ => mv_lt _ j) i hi) (hW _ (by omega))
theorem enc_lt {W B : Nat → Nat} (hW : ∀ i, i < 176 → W i < 256) (i : Nat) (hi : i < 16) : enc W B i < 256 := lt_xor8 (mv_lt _ i) (hW _ (by omega))
theorem load_ay {w : World} {b o : Nat} {g : Nat → Nat} (h : Ay w b o 16 g) : (Instr.loadAt 72 (.pointer (some ⟨b, o, none⟩))).run Tryd.prog w = .ok (.agg (ac g 16).toArray) w :=
  run_loadAt_mid w b o 72 (ac g 16) _ h.range Tryd.underlying72 rfl (by rw [ac_len]; exact info_blk)
theorem store_ay {w : World} {b o : Nat} (h : w.there b o 16) (g : Nat → Nat) : (Instr.storeAt 72 (.pointer (some ⟨b, o, none⟩)) (.agg (ac g 16).toArray)).run Tryd.prog w = .ok () (w.setCells b o (ac g 16)) := by
  have := run_storeAt_mid (P := Tryd.prog) w b o 72 (ac g 16).toArray (by rw [ac_size]; exact h) (by rw [ac_size]; exact info_blk) (ac_one g 16)
  rwa [List.toList_toArray] at this

/-- the cells of a loaded or stored block, as the walk asks for them. -/
theorem ac_lens (g : Nat → Nat) : (ac g 16).length = 16 ∧ (Tryd.prog.info? 72).map (·.size) = some (ac g 16).length ∧ ∀ v ∈ ac g 16, v.oneCell' = true :=
  ⟨ac_len g 16, by rw [ac_len]; exact info_blk, fun v hv => (Array.all_eq_true_iff_forall_mem.1 (ac_one g 16)) v (by simpa using hv)⟩
theorem range_below {w w' : World} {b o : Nat} {cs : List Value} (h : w.rangeAt b o cs) (hb : b < w.heap.size) (k : Below w.heap.size w w') : w'.rangeAt b o cs :=
  fun j v hv => (k.cell (p := ⟨b, o + j, none⟩) hb).trans (h j v hv)
/-- what a region that enciphers leans on: a round key at o of block b, the cipher's table, a block t that is written, a block behind it that is noughts. -/
def En (w0 : World) (b o t : Nat) (H : Nat → Nat) (w : World) : Prop :=
  w.rangeAt b o (ac H 16) ∧ w.there t 0 16 ∧ Ay w b 0 256 sbox ∧ Ay w (t + 1) 0 16 (fun _ => 0) ∧ Below t w0 w
theorem En.call {w0 : World} {b o t : Nat} {H : Nat → Nat} {w1 w2 : World} (h : En w0 b o t H w1) (k : Below w1.heap.size w1 w2) : En w0 b o t H w2 :=
  have ht : t < w1.heap.size := Nat.lt_trans (Nat.lt_succ_self _) h.2.2.2.1.1
  ⟨range_below h.1 h.2.2.1.1 k, there_below h.2.1 ht k, h.2.2.1.below k, h.2.2.2.1.below k, h.2.2.2.2.trans (k.mono (Nat.le_of_lt ht))⟩
theorem En.store {w0 : World} {b o t : Nat} {H X : Nat → Nat} {w1 : World} (h : En w0 b o t H w1) (hb : b < t) : En w0 b o t H (w1.setCells t 0 (ac X 16)) :=
  ⟨World.rangeAt_setCells_apart h.1 _ _ _ (.inl (Nat.ne_of_lt hb)), World.there_setCells h.2.1 _ _ _, h.2.2.1.apart _ _ _ (.inl (Nat.ne_of_lt hb)), h.2.2.2.1.apart _ _ _ (.inl (Nat.succ_ne_self t)), belowCells t (Nat.le_refl _) _ 0 _ h.2.2.2.2⟩
/-- the same, where nothing else is kept. -/
def En2 (w0 : World) (b o t : Nat) (H : Nat → Nat) (w : World) : Prop :=
  w.rangeAt b o (ac H 16) ∧ w.there t 0 16 ∧ Ay w b 0 256 sbox ∧ t < w.heap.size ∧ Below t w0 w
theorem En2.call {w0 : World} {b o t : Nat} {H : Nat → Nat} {w1 w2 : World} (h : En2 w0 b o t H w1) (k : Below w1.heap.size w1 w2) : En2 w0 b o t H w2 :=
  ⟨range_below h.1 h.2.2.1.1 k, there_below h.2.1 h.2.2.2.1 k, h.2.2.1.below k, Nat.lt_of_lt_of_le h.2.2.2.1 k.size, h.2.2.2.2.trans (k.mono (Nat.le_of_lt h.2.2.2.1))⟩
theorem En2.store {w0 : World} {b o t : Nat} {H X : Nat → Nat} {w1 : World} (h : En2 w0 b o t H w1) (hb : b < t) : En2 w0 b o t H (w1.setCells t 0 (ac X 16)) :=
  ⟨World.rangeAt_setCells_apart h.1 _ _ _ (.inl (Nat.ne_of_lt hb)), World.there_setCells h.2.1 _ _ _, h.2.2.1.apart _ _ _ (.inl (Nat.ne_of_lt hb)), Nat.lt_of_lt_of_le h.2.2.2.1 (belowCells (B := 0) t (Nat.zero_le _) _ 0 _ (Below.refl _ _)).size, belowCells t (Nat.le_refl _) _ 0 _ h.2.2.2.2⟩
theorem En2.here {w0 : World} {b o t : Nat} {H X : Nat → Nat} {w1 : World} (h : En2 w0 b o t H w1) (hb : b < t) (hX : ∀ i, i < 16 → X i < 256) :
    Ay (w1.setCells t 0 (ac X 16)) t 0 16 X ∧ Below t w0 (w1.setCells t 0 (ac X 16)) := ⟨Ay.mk_cells h.2.2.2.1 h.2.1 hX, (h.store hb).2.2.2.2⟩
theorem En.here {w0 : World} {b o t : Nat} {H X : Nat → Nat} {w1 : World} (h : En w0 b o t H w1) (hb : b < t) (hX : ∀ i, i < 16 → X i < 256) :
    Ay (w1.setCells t 0 (ac X 16)) t 0 16 X ∧ Ay (w1.setCells t 0 (ac X 16)) (t + 1) 0 16 (fun _ => 0) ∧ Below t w0 (w1.setCells t 0 (ac X 16)) :=
  ⟨Ay.mk_cells (Nat.lt_trans (Nat.lt_succ_self _) h.2.2.2.1.1) h.2.1 hX, (h.store hb).2.2.2.1, (h.store hb).2.2.2.2⟩

set_option maxRecDepth 100000 in
set_option maxHeartbeats 4000000 in
theorem encipher_c (b : Nat) (W f : Nat → Nat) (w : World) (C : Ci w b W) (hf : ∀ i, i < 16 → f i < 256) :
    Calls Tryd.prog 43 #[.pointer (some ⟨b, 0, none⟩), .agg (ac f 16).toArray] w fun e w' => e = .returned (.agg (ac (enc W f) 16).toArray) ∧ Below w.heap.size w w' := by
  have WS := Lib.hid (balloc (balloc (brefl w) (.cells (ac f 16).toArray 72)) (.cells #[.int .u8 0, .int .u8 0, .int .u8 0, .int .u8 0, .int .u8 0, .int .u8 0, .int .u8 0, .int .u8 0, .int .u8 0, .int .u8 0, .int .u8 0, .int .u8 0, .int .u8 0, .int .u8 0, .int .u8 0, .int .u8 0] 72))
  have A0 := Lib.hid ((Ay.newC w 16 f 72 hf).below (balloc (brefl _) (.cells #[.int .u8 0, .int .u8 0, .int .u8 0, .int .u8 0, .int .u8 0, .int .u8 0, .int .u8 0, .int .u8 0, .int .u8 0, .int .u8 0, .int .u8 0, .int .u8 0, .int .u8 0, .int .u8 0, .int .u8 0, .int .u8 0] 72)))
  have R0 := Lib.hid (Ay.new0 (w.alloc (.cells (ac f 16).toArray 72)) 16 72)
  rw [sz_alloc] at R0
  replace R0 : Hid (Ay ((w.alloc (.cells (ac f 16).toArray 72)).alloc (.cells #[.int .u8 0, .int .u8 0, .int .u8 0, .int .u8 0, .int .u8 0, .int .u8 0, .int .u8 0, .int .u8 0, .int .u8 0, .int .u8 0, .int .u8 0, .int .u8 0, .int .u8 0, .int .u8 0, .int .u8 0, .int .u8 0] 72)) (w.heap.size + 1) 0 16 (fun _ => 0)) := R0
  have C0 := Lib.hid (C.below WS.out)
  have CL := C.1.1
  have HF := Lib.hid hf
  have HW := Lib.hid C.2.2.1
  clear hf C
  go_enter Tryd.func43, Tryd.ntmps43
  go_wp2_with fail
  generalize ((w.alloc (.cells (ac f 16).toArray 72)).alloc (.cells #[.int .u8 0, .int .u8 0, .int .u8 0, .int .u8 0, .int .u8 0, .int .u8 0, .int .u8 0, .int .u8 0, .int .u8 0, .int .u8 0, .int .u8 0, .int .u8 0, .int .u8 0, .int .u8 0, .int .u8 0, .int .u8 0] 72)) = W0 at *
  have TR : W0.drew.rangeAt w.heap.size 0 (ac f 16) := (A0.out.below (bdrew1 _ _)).range
  have KD : Hid (En W0 b 256 w.heap.size W W0.drew) := Lib.hid (by
    have C1 := C0.out.below (bdrew1 _ _)
    exact ⟨((C1.2.part 0 16 (by omega)).eq (g' := W) (fun i _ => by rw [Nat.zero_add])).range, (A0.out.below (bdrew1 _ _)).there, C1.1, R0.out.below (bdrew1 _ _), bdrew1 _ _⟩)
  have XL := Lib.hid (fun i (hi : i < 16) => lt_xor8 (HF.out i hi) (HW.out i (by omega)))
  have PL := Lib.hid (fun w => plus_c f W w HF.out (fun i hi => HW.out i (by omega)))
  refine wp_region_noPanic ?_
  refine wp_region_held_drew (S := fun w' => En W0 b 256 w.heap.size W w') (by kernel_rfl) KD.out (fun hHeld => ?_)
  refine wpAnyH_take (i := 1) (v := ?_) rfl (by kernel_rfl) (by kernel_rfl) (by kernel_rfl) (fun _ _ _ h => h) (Or.inl ⟨by rfl, ?_⟩) hHeld ?_
  rotate_left
  · ((intro w _; go_simp); try with_reducible rfl)
  (try simp only [List.getElem_toArray, List.getElem_cons_succ, List.getElem_cons_zero, Act.put, List.setIfInBounds_toArray, List.set_cons_zero, List.set_cons_succ])
  refine wpAnyH_take (i := 2) (v := ?_) rfl (by kernel_rfl) (by kernel_rfl) (by kernel_rfl) (fun _ _ _ h => h) (Or.inl ⟨by rfl, ?_⟩) hHeld ?_
  rotate_left
  · ((intro w _; go_simp); try with_reducible rfl)
  (try simp only [List.getElem_toArray, List.getElem_cons_succ, List.getElem_cons_zero, Act.put, List.setIfInBounds_toArray, List.set_cons_zero, List.set_cons_succ])
  refine wpAnyH_take (i := 3) (v := ?_) rfl (by kernel_rfl) (by kernel_rfl) (by kernel_rfl) (fun _ _ _ h => h) (Or.inl ⟨by rfl, ?_⟩) hHeld ?_
  rotate_left
  · ((intro w _; go_simp); try with_reducible rfl)
  (try simp only [List.getElem_toArray, List.getElem_cons_succ, List.getElem_cons_zero, Act.put, List.setIfInBounds_toArray, List.set_cons_zero, List.set_cons_succ])
  refine wpAnyH_take (i := 4) (v := ?_) rfl (by kernel_rfl) (by kernel_rfl) (by kernel_rfl) (fun _ _ _ h => h) (Or.inl ⟨by rfl, ?_⟩) hHeld ?_
  rotate_left
  · ((intro w _; go_simp); try with_reducible rfl)
  (try simp only [List.getElem_toArray, List.getElem_cons_succ, List.getElem_cons_zero, Act.put, List.setIfInBounds_toArray, List.set_cons_zero, List.set_cons_succ])
  refine wpAnyH_take (i := 5) rfl (by kernel_rfl) (by kernel_rfl) (by kernel_rfl) (fun _ _ _ h => h) (yieldsIf_load_mid (by rfl) _ _ rfl _ _ rfl _ _ (fun w h => h.1) Tryd.underlying72 rfl (by rw [ac_len]; exact info_blk)) hHeld ?_
  (try simp only [List.getElem_toArray, List.getElem_cons_succ, List.getElem_cons_zero, Act.put, List.setIfInBounds_toArray, List.set_cons_zero, List.set_cons_succ])
  refine wpAnyH_ready (rs := [0]) (by kernel_rfl) (by simp) (AllReadyH.cons rfl (fun KQ hKQ => ?_) AllReadyH.nil)
  rw [if_pos (by rfl)]
  refine wp_load_mid _ _ rfl _ _ rfl _ _ TR Tryd.underlying72 rfl (by rw [ac_len]; exact info_blk) ?_
  refine hKQ.out _ _ hHeld (fun hH2 => ?_)
  clear hKQ KQ hHeld
  have hHeld := hH2
  clear hH2
  (try simp only [List.getElem_toArray, List.getElem_cons_succ, List.getElem_cons_zero, Act.put, List.setIfInBounds_toArray, List.set_cons_zero, List.set_cons_succ])
  refine wpAnyH_ready (rs := [6]) (by kernel_rfl) (by simp) (AllReadyH.cons rfl (fun KQ hKQ => ?_) AllReadyH.nil)
  go_simp
  refine (PL.out _).mono ?_
  rintro e w' ⟨rfl, hb⟩
  replace hHeld := En.call hHeld hb
  clear hb
  go_wp2_with fail
  refine hKQ.out _ _ hHeld (fun hH2 => ?_)
  clear hKQ KQ hHeld
  have hHeld := hH2
  clear hH2
  (try simp only [List.getElem_toArray, List.getElem_cons_succ, List.getElem_cons_zero, Act.put, List.setIfInBounds_toArray, List.set_cons_zero, List.set_cons_succ])
  refine wpAnyH_ready (rs := [7]) (by kernel_rfl) (by simp) (AllReadyH.cons rfl (fun KQ hKQ => ?_) AllReadyH.nil)
  rw [if_pos (by rfl)]
  refine wp_store_mid _ _ _ rfl _ _ (ac (xr f W) 16).toArray rfl rfl (by rw [ac_size]; exact hHeld.2.1) (by rw [ac_size]; exact info_blk) (ac_one _ 16) ?_
  rw [List.toList_toArray]
  have EN := Lib.hid (En.here (X := xr f W) hHeld CL XL.out)
  refine hKQ.out _ _ (hHeld.store CL) (fun hH2 => ?_)
  clear hKQ KQ hHeld hH2
  (try simp only [List.getElem_toArray, List.getElem_cons_succ, List.getElem_cons_zero, Act.put, List.setIfInBounds_toArray, List.set_cons_zero, List.set_cons_succ])
  refine wpAnyH_done (by kernel_rfl) ?_ _
  refine NoPanic.normal ?_
  obtain ⟨a1, r1, b1⟩ := EN.out
  have A1 := Lib.hid a1
  have R1 := Lib.hid r1
  have B1 := Lib.hid b1
  clear a1 r1 b1 EN TR KD XL PL
  generalize w'.setCells w.heap.size 0 (ac (xr f W) 16) = W1 at *
  go_wp2_with fail
  go_loopw [5] (fun i wr => ∃ r n : Nat, n = r + 1 ∧ n ≤ 10 ∧ i = .int .i64 n ∧ Ay wr w.heap.size 0 16 (cip W f r) ∧ Ay wr (w.heap.size + 1) 0 16 (fun _ => 0) ∧ Below w.heap.size W0 wr) (fun i _ => 10 - (intOf i).toNat)
  case atStart => exact ⟨0, 1, rfl, by omega, rfl, by rw [cip_zero]; exact A1.out, R1.out, B1.out⟩
  case round =>
    clear A1 R1 B1
    obtain ⟨r, n, hn, hk, rfl, ar, rr, hb⟩ := hrel
    rename World => wr
    have HN := Lib.hid hn
    have AR := Lib.hid ar
    have RR := Lib.hid rr
    have BB := Lib.hid hb
    have CC : Hid (Ci wr b W) := Lib.hid ⟨C0.out.1.belowB CL hb, C0.out.2.belowB CL hb⟩
    clear hn ar rr hb
    by_cases c : n < 10
    · have e0 : decide ((n : Int) < 10) = true := by rw [decide_eq_true_iff]; omega
      have NX : Hid (cip W f (r + 1) = xr (mx (mv (cip W f r))) (fun i => W (16 * n + i))) := Lib.hid (by rw [HN.out, cip_succ])
      have GL := Lib.hid (AR.out.2.1)
      obtain ⟨H, hH⟩ : ∃ H : Nat → Nat, H = fun i => W (16 * n + i) := ⟨_, rfl⟩
      have HLH : Hid (∀ i, i < 16 → H i < 256) := Lib.hid (by rw [hH]; exact fun i hi => HW.out _ (by omega))
      have KR : Hid (wr.drew.rangeAt b (256 + n * 16) (ac H 16)) := Lib.hid (by
        rw [hH]
        have := ((CC.out.below (bdrew1 _ _)).2.part (16 * n) 16 (by omega)).range
        rwa [show 256 + 16 * n = 256 + n * 16 from by omega] at this)
      have NXH : Hid (cip W f (r + 1) = xr (mx (mv (cip W f r))) H) := Lib.hid (by rw [NX.out, hH])
      clear NX hH
      generalize cip W f r = G at *
      have MVL := Lib.hid (fun i (_ : i < 16) => mv_lt G i)
      have MXL := Lib.hid (fun i hi => mx_lt16 MVL.out i hi)
      have SB := Lib.hid (fun t w (k : En wr b (256 + n * 16) t H w) => substituted_c b G w k.2.2.1 GL.out)
      have MX := Lib.hid (fun w => mixed_c (mv G) w MVL.out)
      have PL := Lib.hid (fun w => plus_c (mx (mv G)) H w MXL.out HLH.out)
      have XL := Lib.hid (fun i hi => lt_xor8 (MXL.out i hi) (HLH.out i hi))
      have TR : wr.drew.rangeAt w.heap.size 0 (ac G 16) := (AR.out.below (bdrew1 _ _)).range
      have KD : Hid (En wr b (256 + n * 16) w.heap.size H wr.drew) := Lib.hid ⟨KR.out, (AR.out.below (bdrew1 _ _)).there, CC.out.1.below (bdrew1 _ _), RR.out.below (bdrew1 _ _), bdrew1 _ _⟩
      have n0 : (0 : Int) ≤ (n : Int) := by omega
      have n1 : (n : Int) < 10 := by omega
      have n2 : (n : Int) < 11 := by omega
      go_wp2_with fail
      refine wp_region_noPanic ?_
      refine wp_region_held_drew (S := fun w' => En wr b (256 + n * 16) w.heap.size H w') (by kernel_rfl) KD.out (fun hHeld => ?_)
      refine wpAnyH_take (i := 0) (v := ?_) rfl (by kernel_rfl) (by kernel_rfl) (by kernel_rfl) (fun _ _ _ h => h) (Or.inl ⟨by rfl, ?_⟩) hHeld ?_
      rotate_left
      · ((intro w _; go_simp); try with_reducible rfl)
      (try simp only [List.getElem_toArray, List.getElem_cons_succ, List.getElem_cons_zero, Act.put, List.setIfInBounds_toArray, List.set_cons_zero, List.set_cons_succ])
      refine wpAnyH_take (i := 4) (v := ?_) rfl (by kernel_rfl) (by kernel_rfl) (by kernel_rfl) (fun _ _ _ h => h) (Or.inl ⟨by rfl, ?_⟩) hHeld ?_
      rotate_left
      · ((intro w _; go_simp); try with_reducible rfl)
      (try simp only [List.getElem_toArray, List.getElem_cons_succ, List.getElem_cons_zero, Act.put, List.setIfInBounds_toArray, List.set_cons_zero, List.set_cons_succ])
      refine wpAnyH_take (i := 5) (v := ?_) rfl (by kernel_rfl) (by kernel_rfl) (by kernel_rfl) (fun _ _ _ h => h) (Or.inl ⟨by rfl, ?_⟩) hHeld ?_
      rotate_left
      · ((intro w _; go_simp); try with_reducible rfl)
      (try simp only [List.getElem_toArray, List.getElem_cons_succ, List.getElem_cons_zero, Act.put, List.setIfInBounds_toArray, List.set_cons_zero, List.set_cons_succ])
      refine wpAnyH_take (i := 6) (v := ?_) rfl (by kernel_rfl) (by kernel_rfl) (by kernel_rfl) (fun _ _ _ h => h) (Or.inl ⟨by rfl, ?_⟩) hHeld ?_
      rotate_left
      · ((intro w _; go_simp); try with_reducible rfl)
      (try simp only [List.getElem_toArray, List.getElem_cons_succ, List.getElem_cons_zero, Act.put, List.setIfInBounds_toArray, List.set_cons_zero, List.set_cons_succ])
      refine wpAnyH_take (i := 7) (v := ?_) rfl (by kernel_rfl) (by kernel_rfl) (by kernel_rfl) (fun _ _ _ h => h) (Or.inl ⟨by rfl, ?_⟩) hHeld ?_
      rotate_left
      · ((intro w _; go_simp); try with_reducible rfl)
      (try simp only [List.getElem_toArray, List.getElem_cons_succ, List.getElem_cons_zero, Act.put, List.setIfInBounds_toArray, List.set_cons_zero, List.set_cons_succ])
      refine wpAnyH_take (i := 8) (v := ?_) rfl (by kernel_rfl) (by kernel_rfl) (by kernel_rfl) (fun _ _ _ h => h) (Or.inl ⟨by rfl, ?_⟩) hHeld ?_
      rotate_left
      · ((intro w _; go_simp); try with_reducible rfl)
      (try simp only [List.getElem_toArray, List.getElem_cons_succ, List.getElem_cons_zero, Act.put, List.setIfInBounds_toArray, List.set_cons_zero, List.set_cons_succ])
      refine wpAnyH_take (i := 9) rfl (by kernel_rfl) (by kernel_rfl) (by kernel_rfl) (fun _ _ _ h => h) (yieldsIf_load_mid (by rfl) _ _ rfl _ _ rfl _ _ (fun w h => h.1) Tryd.underlying72 rfl (by rw [ac_len]; exact info_blk)) hHeld ?_
      (try simp only [List.getElem_toArray, List.getElem_cons_succ, List.getElem_cons_zero, Act.put, List.setIfInBounds_toArray, List.set_cons_zero, List.set_cons_succ])
      refine wpAnyH_ready (rs := [1]) (by kernel_rfl) (by simp) (AllReadyH.cons rfl (fun KQ hKQ => ?_) AllReadyH.nil)
      rw [if_pos (by rfl)]
      refine wp_load_mid _ _ rfl _ _ rfl _ _ TR Tryd.underlying72 rfl (by rw [ac_len]; exact info_blk) ?_
      refine hKQ.out _ _ hHeld (fun hH2 => ?_)
      clear hKQ KQ hHeld
      have hHeld := hH2
      clear hH2
      (try simp only [List.getElem_toArray, List.getElem_cons_succ, List.getElem_cons_zero, Act.put, List.setIfInBounds_toArray, List.set_cons_zero, List.set_cons_succ])
      refine wpAnyH_ready (rs := [2]) (by kernel_rfl) (by simp) (AllReadyH.cons rfl (fun KQ hKQ => ?_) AllReadyH.nil)
      go_simp
      refine (SB.out _ _ hHeld).mono ?_
      rintro e w' ⟨rfl, hb⟩
      replace hHeld := En.call hHeld hb
      clear hb
      go_wp2_with fail
      refine hKQ.out _ _ hHeld (fun hH2 => ?_)
      clear hKQ KQ hHeld
      have hHeld := hH2
      clear hH2
      (try simp only [List.getElem_toArray, List.getElem_cons_succ, List.getElem_cons_zero, Act.put, List.setIfInBounds_toArray, List.set_cons_zero, List.set_cons_succ])
      refine wpAnyH_ready (rs := [3]) (by kernel_rfl) (by simp) (AllReadyH.cons rfl (fun KQ hKQ => ?_) AllReadyH.nil)
      go_simp
      refine (MX.out _).mono ?_
      rintro e w' ⟨rfl, hb⟩
      replace hHeld := En.call hHeld hb
      clear hb
      go_wp2_with fail
      refine hKQ.out _ _ hHeld (fun hH2 => ?_)
      clear hKQ KQ hHeld
      have hHeld := hH2
      clear hH2
      (try simp only [List.getElem_toArray, List.getElem_cons_succ, List.getElem_cons_zero, Act.put, List.setIfInBounds_toArray, List.set_cons_zero, List.set_cons_succ])
      refine wpAnyH_ready (rs := [10]) (by kernel_rfl) (by simp) (AllReadyH.cons rfl (fun KQ hKQ => ?_) AllReadyH.nil)
      go_simp
      refine (PL.out _).mono ?_
      rintro e w' ⟨rfl, hb⟩
      replace hHeld := En.call hHeld hb
      clear hb
      go_wp2_with fail
      refine hKQ.out _ _ hHeld (fun hH2 => ?_)
      clear hKQ KQ hHeld
      have hHeld := hH2
      clear hH2
      (try simp only [List.getElem_toArray, List.getElem_cons_succ, List.getElem_cons_zero, Act.put, List.setIfInBounds_toArray, List.set_cons_zero, List.set_cons_succ])
      refine wpAnyH_ready (rs := [11]) (by kernel_rfl) (by simp) (AllReadyH.cons rfl (fun KQ hKQ => ?_) AllReadyH.nil)
      rw [if_pos (by rfl)]
      refine wp_store_mid _ _ _ rfl _ _ (ac (xr (mx (mv G)) H) 16).toArray rfl rfl (by rw [ac_size]; exact hHeld.2.1) (by rw [ac_size]; exact info_blk) (ac_one _ 16) ?_
      rw [List.toList_toArray]
      have EN := Lib.hid (En.here (X := xr (mx (mv G)) H) hHeld CL XL.out)
      refine hKQ.out _ _ (hHeld.store CL) (fun hH2 => ?_)
      clear hKQ KQ hHeld hH2
      (try simp only [List.getElem_toArray, List.getElem_cons_succ, List.getElem_cons_zero, Act.put, List.setIfInBounds_toArray, List.set_cons_zero, List.set_cons_succ])
      refine wpAnyH_done (by kernel_rfl) ?_ _
      refine NoPanic.normal ?_
      obtain ⟨a1, r1, b1⟩ := EN.out
      have A1 := Lib.hid a1
      have R1 := Lib.hid r1
      have B1 := Lib.hid (BB.out.trans b1)
      clear a1 r1 b1 EN TR KD XL PL SB MX
      go_wp2_with fail
      go_roundw
      case rel => exact ⟨r + 1, n + 1, by rw [HN.out], by omega, by go_num, by rw [NXH.out]; exact A1.out, R1.out, B1.out⟩
      case measure => simp [intOf]; omega
    · have e0 : decide ((n : Int) < 10) = false := by rw [decide_eq_false_iff_not]; omega
      obtain rfl : n = 10 := by omega
      obtain rfl : r = 9 := by have := HN.out; omega
      have EE : Hid (enc W f = xr (mv (cip W f 9)) (fun i => W (160 + i))) := rfl
      have GL := Lib.hid (AR.out.2.1)
      obtain ⟨H, hH⟩ : ∃ H : Nat → Nat, H = fun i => W (160 + i) := ⟨_, rfl⟩
      have HLH : Hid (∀ i, i < 16 → H i < 256) := Lib.hid (by rw [hH]; exact fun i hi => HW.out _ (by omega))
      have KR : Hid (wr.drew.rangeAt b 416 (ac H 16)) := Lib.hid (by
        rw [hH]
        exact ((CC.out.below (bdrew1 _ _)).2.part 160 16 (by omega)).range)
      rw [← hH] at EE
      clear hH
      generalize cip W f 9 = G at *
      have MVL := Lib.hid (fun i (_ : i < 16) => mv_lt G i)
      have SB := Lib.hid (fun t w (k : En2 wr b 416 t H w) => substituted_c b G w k.2.2.1 GL.out)
      have PL := Lib.hid (fun w => plus_c (mv G) H w MVL.out HLH.out)
      have XL := Lib.hid (fun i hi => lt_xor8 (MVL.out i hi) (HLH.out i hi))
      have TR : wr.drew.rangeAt w.heap.size 0 (ac G 16) := (AR.out.below (bdrew1 _ _)).range
      have KD : Hid (En2 wr b 416 (w.heap.size + 1) H wr.drew) := Lib.hid ⟨KR.out, (RR.out.below (bdrew1 _ _)).there, CC.out.1.below (bdrew1 _ _), (RR.out.below (bdrew1 _ wr)).1, bdrew1 _ _⟩
      have CL2 : b < w.heap.size + 1 := by omega
      go_wp2_with fail
      refine wp_region_noPanic ?_
      refine wp_region_held_drew (S := fun w' => En2 wr b 416 (w.heap.size + 1) H w') (by kernel_rfl) KD.out (fun hHeld => ?_)
      refine wpAnyH_take (i := 0) (v := ?_) rfl (by kernel_rfl) (by kernel_rfl) (by kernel_rfl) (fun _ _ _ h => h) (Or.inl ⟨by rfl, ?_⟩) hHeld ?_
      rotate_left
      · ((intro w _; go_simp); try with_reducible rfl)
      (try simp only [List.getElem_toArray, List.getElem_cons_succ, List.getElem_cons_zero, Act.put, List.setIfInBounds_toArray, List.set_cons_zero, List.set_cons_succ])
      refine wpAnyH_take (i := 3) (v := ?_) rfl (by kernel_rfl) (by kernel_rfl) (by kernel_rfl) (fun _ _ _ h => h) (Or.inl ⟨by rfl, ?_⟩) hHeld ?_
      rotate_left
      · ((intro w _; go_simp); try with_reducible rfl)
      (try simp only [List.getElem_toArray, List.getElem_cons_succ, List.getElem_cons_zero, Act.put, List.setIfInBounds_toArray, List.set_cons_zero, List.set_cons_succ])
      refine wpAnyH_take (i := 4) (v := ?_) rfl (by kernel_rfl) (by kernel_rfl) (by kernel_rfl) (fun _ _ _ h => h) (Or.inl ⟨by rfl, ?_⟩) hHeld ?_
      rotate_left
      · ((intro w _; go_simp); try with_reducible rfl)
      (try simp only [List.getElem_toArray, List.getElem_cons_succ, List.getElem_cons_zero, Act.put, List.setIfInBounds_toArray, List.set_cons_zero, List.set_cons_succ])
      refine wpAnyH_take (i := 5) (v := ?_) rfl (by kernel_rfl) (by kernel_rfl) (by kernel_rfl) (fun _ _ _ h => h) (Or.inl ⟨by rfl, ?_⟩) hHeld ?_
      rotate_left
      · ((intro w _; go_simp); try with_reducible rfl)
      (try simp only [List.getElem_toArray, List.getElem_cons_succ, List.getElem_cons_zero, Act.put, List.setIfInBounds_toArray, List.set_cons_zero, List.set_cons_succ])
      refine wpAnyH_take (i := 6) (v := ?_) rfl (by kernel_rfl) (by kernel_rfl) (by kernel_rfl) (fun _ _ _ h => h) (Or.inl ⟨by rfl, ?_⟩) hHeld ?_
      rotate_left
      · ((intro w _; go_simp); try with_reducible rfl)
      (try simp only [List.getElem_toArray, List.getElem_cons_succ, List.getElem_cons_zero, Act.put, List.setIfInBounds_toArray, List.set_cons_zero, List.set_cons_succ])
      refine wpAnyH_take (i := 7) rfl (by kernel_rfl) (by kernel_rfl) (by kernel_rfl) (fun _ _ _ h => h) (yieldsIf_load_mid (by rfl) _ _ rfl _ _ rfl _ _ (fun w h => h.1) Tryd.underlying72 rfl (by rw [ac_len]; exact info_blk)) hHeld ?_
      (try simp only [List.getElem_toArray, List.getElem_cons_succ, List.getElem_cons_zero, Act.put, List.setIfInBounds_toArray, List.set_cons_zero, List.set_cons_succ])
      refine wpAnyH_ready (rs := [1]) (by kernel_rfl) (by simp) (AllReadyH.cons rfl (fun KQ hKQ => ?_) AllReadyH.nil)
      rw [if_pos (by rfl)]
      refine wp_load_mid _ _ rfl _ _ rfl _ _ TR Tryd.underlying72 rfl (by rw [ac_len]; exact info_blk) ?_
      refine hKQ.out _ _ hHeld (fun hH2 => ?_)
      clear hKQ KQ hHeld
      have hHeld := hH2
      clear hH2
      (try simp only [List.getElem_toArray, List.getElem_cons_succ, List.getElem_cons_zero, Act.put, List.setIfInBounds_toArray, List.set_cons_zero, List.set_cons_succ])
      refine wpAnyH_ready (rs := [2]) (by kernel_rfl) (by simp) (AllReadyH.cons rfl (fun KQ hKQ => ?_) AllReadyH.nil)
      go_simp
      refine (SB.out _ _ hHeld).mono ?_
      rintro e w' ⟨rfl, hb⟩
      replace hHeld := En2.call hHeld hb
      clear hb
      go_wp2_with fail
      refine hKQ.out _ _ hHeld (fun hH2 => ?_)
      clear hKQ KQ hHeld
      have hHeld := hH2
      clear hH2
      (try simp only [List.getElem_toArray, List.getElem_cons_succ, List.getElem_cons_zero, Act.put, List.setIfInBounds_toArray, List.set_cons_zero, List.set_cons_succ])
      refine wpAnyH_ready (rs := [8]) (by kernel_rfl) (by simp) (AllReadyH.cons rfl (fun KQ hKQ => ?_) AllReadyH.nil)
      go_simp
      refine (PL.out _).mono ?_
      rintro e w' ⟨rfl, hb⟩
      replace hHeld := En2.call hHeld hb
      clear hb
      go_wp2_with fail
      refine hKQ.out _ _ hHeld (fun hH2 => ?_)
      clear hKQ KQ hHeld
      have hHeld := hH2
      clear hH2
      (try simp only [List.getElem_toArray, List.getElem_cons_succ, List.getElem_cons_zero, Act.put, List.setIfInBounds_toArray, List.set_cons_zero, List.set_cons_succ])
      refine wpAnyH_ready (rs := [9]) (by kernel_rfl) (by simp) (AllReadyH.cons rfl (fun KQ hKQ => ?_) AllReadyH.nil)
      rw [if_pos (by rfl)]
      refine wp_store_mid _ _ _ rfl _ _ (ac (xr (mv G) H) 16).toArray rfl rfl (by rw [ac_size]; exact hHeld.2.1) (by rw [ac_size]; exact info_blk) (ac_one _ 16) ?_
      rw [List.toList_toArray]
      have EN := Lib.hid (En2.here (X := xr (mv G) H) hHeld CL2 XL.out)
      refine hKQ.out _ _ (En2.store hHeld CL2) (fun hH2 => ?_)
      clear hKQ KQ hHeld hH2
      (try simp only [List.getElem_toArray, List.getElem_cons_succ, List.getElem_cons_zero, Act.put, List.setIfInBounds_toArray, List.set_cons_zero, List.set_cons_succ])
      refine wpAnyH_done (by kernel_rfl) ?_ _
      refine NoPanic.normal ?_
      obtain ⟨a1, b1⟩ := EN.out
      have FI := Lib.hid a1
      have FB := Lib.hid (WS.out.trans (BB.out.trans (b1.mono (Nat.le_succ _))))
      clear a1 b1 EN TR KD XL PL SB
      go_wp2_with fail
      refine bodyPost_ret (v := .agg (ac (xr (mv G) H) 16).toArray) (results_cell_mid rfl _ _ (w.heap.size + 1) _ _ rfl FI.out.range Tryd.underlying72 rfl (by rw [ac_len]; exact info_blk)) rfl ⟨by rw [EE.out], FB.out⟩
end Go.Proofs.YtbbcgcfahaljoaaDoor.Ae
namespace Go.Proofs.YtbbcgcfahaljoaaDoor.Ae
open Go.RowKit By
set_option linter.unusedVariables false
set_option linter.unusedSimpArgs false

theorem kX_stay (K : Nat → Nat) (t j : Nat) (h : j < 16 + 4 * t) : ∀ d, kX K (t + d) j = kX K t j
  | 0 => rfl
  | d + 1 => by
    rw [← Nat.add_assoc, kX_old K (t + d) j (by omega)]
    exact kX_stay K t j h d
/-- all round keys. -/
def kW (K : Nat → Nat) : Nat → Nat := kX K 40
theorem kW_at (K : Nat → Nat) (t j : Nat) (ht : t ≤ 40) (h : j < 16 + 4 * t) : kX K t j = kW K j := by
  have := kX_stay K t j h (40 - t)
  rw [show t + (40 - t) = 40 from by omega] at this
  exact this.symm
theorem kW_key (K : Nat → Nat) (j : Nat) (h : j < 16) : kW K j = K j := (kW_at K 0 j (by omega) (by omega)).symm
theorem kt_eq {W W' : Nat → Nat} (t k : Nat) (hk : k < 4) (h : ∀ j, j < 16 + 4 * t → W j = W' j) : kt W t k = kt W' t k := by
  unfold kt
  rw [h (4 * t + 13) (by omega), h (4 * t + 14) (by omega), h (4 * t + 15) (by omega), h (4 * t + 12) (by omega), h (4 * t + 12 + k) (by omega)]
theorem kW_new (K : Nat → Nat) (t k : Nat) (ht : t < 40) (hk : k < 4) : kW K (16 + 4 * t + k) = kW K (4 * t + k) ^^^ kt (kW K) t k := by
  have e := kX_new K t k hk
  rw [kW_at K (t + 1) _ (by omega) (by omega), kW_at K (t + 1) _ (by omega) (by omega), kt_eq t k hk (fun j hj => kW_at K t j (by omega) hj)] at e
  exact e
/-- a round key out of the one ahead. -/
theorem nk_kW (K : Nat → Nat) (r : Nat) (hr : r < 10) : ∀ i, i < 16 → nk (fun j => kW K (16 * r + j)) (pw (4 * r)) i = kW K (16 * (r + 1) + i)
  | 0, _ => by
    have e := kW_new K (4 * r) 0 (by omega) (by omega)
    unfold kt at e
    rw [if_pos (by omega), if_pos rfl, show 16 + 4 * (4 * r) + 0 = 16 * (r + 1) + 0 from by omega, show 4 * (4 * r) + 0 = 16 * r + 0 from by omega, show 4 * (4 * r) + 13 = 16 * r + 13 from by omega] at e
    exact e.symm
  | 1, _ => by
    have e := kW_new K (4 * r) 1 (by omega) (by omega)
    unfold kt at e
    rw [if_pos (by omega), if_neg (by omega), if_pos rfl, show 16 + 4 * (4 * r) + 1 = 16 * (r + 1) + 1 from by omega, show 4 * (4 * r) + 1 = 16 * r + 1 from by omega, show 4 * (4 * r) + 14 = 16 * r + 14 from by omega] at e
    exact e.symm
  | 2, _ => by
    have e := kW_new K (4 * r) 2 (by omega) (by omega)
    unfold kt at e
    rw [if_pos (by omega), if_neg (by omega), if_neg (by omega), if_pos rfl, show 16 + 4 * (4 * r) + 2 = 16 * (r + 1) + 2 from by omega, show 4 * (4 * r) + 2 = 16 * r + 2 from by omega, show 4 * (4 * r) + 15 = 16 * r + 15 from by omega] at e
    exact e.symm
  | 3, _ => by
    have e := kW_new K (4 * r) 3 (by omega) (by omega)
    unfold kt at e
    rw [if_pos (by omega), if_neg (by omega), if_neg (by omega), if_neg (by omega), show 16 + 4 * (4 * r) + 3 = 16 * (r + 1) + 3 from by omega, show 4 * (4 * r) + 3 = 16 * r + 3 from by omega, show 4 * (4 * r) + 12 = 16 * r + 12 from by omega] at e
    exact e.symm
  | i + 4, h => by
    have e := kW_new K (4 * r + (i + 4) / 4) ((i + 4) % 4) (by omega) (by omega)
    unfold kt at e
    rw [if_neg (by omega), show 16 + 4 * (4 * r + (i + 4) / 4) + (i + 4) % 4 = 16 * (r + 1) + (i + 4) from by omega, show 4 * (4 * r + (i + 4) / 4) + (i + 4) % 4 = 16 * r + (i + 4) from by omega, show 4 * (4 * r + (i + 4) / 4) + 12 + (i + 4) % 4 = 16 * (r + 1) + i from by omega] at e
    rw [e, ← nk_kW K r hr i (by omega)]
    rfl
theorem pw_4 (r : Nat) : pw (4 * (r + 1)) = xt (pw (4 * r)) := by
  have h1 : pw (4 * r + 1) = gm (pw (4 * r)) 2 := by
    show (if 4 * r % 4 = 0 then gm (pw (4 * r)) 2 else pw (4 * r)) = _
    rw [if_pos (by omega)]
  have h2 : pw (4 * r + 2) = pw (4 * r + 1) := by
    show (if (4 * r + 1) % 4 = 0 then _ else _) = _
    rw [if_neg (by omega)]
  have h3 : pw (4 * r + 3) = pw (4 * r + 2) := by
    show (if (4 * r + 2) % 4 = 0 then _ else _) = _
    rw [if_neg (by omega)]
  have h4 : pw (4 * r + 4) = pw (4 * r + 3) := by
    show (if (4 * r + 3) % 4 = 0 then _ else _) = _
    rw [if_neg (by omega)]
  rw [show 4 * (r + 1) = 4 * r + 4 from by omega, h4, h3, h2, h1, gm_2 _ (pw_lt _)]
theorem kW_lt {K : Nat → Nat} (hK : ∀ i, i < 16 → K i < 256) : ∀ j, j < 176 → kW K j < 256 := by
  intro j hj
  by_cases c : j < 16
  · rw [kW_key K j c]; exact hK j c
  · have e := kW_new K ((j - 16) / 4) (j % 4) (by omega) (by omega)
    rw [show 16 + 4 * ((j - 16) / 4) + j % 4 = j from by omega] at e
    have i1 := kW_lt hK (4 * ((j - 16) / 4) + j % 4) (by omega)
    rw [e]
    refine lt_xor8 i1 ?_
    unfold kt
    split
    · split
      · exact lt_xor8 (sbox_lt _) (pw_lt _)
      · split
        · exact sbox_lt _
        · split <;> exact sbox_lt _
    · exact kW_lt hK _ (by omega)
  termination_by j => j

/-- a part of an array is written. -/
def putp (g X : Nat → Nat) (p m : Nat) (j : Nat) : Nat := if p ≤ j ∧ j < p + m then X (j - p) else g j
theorem Ay.put {w : World} {b o n : Nat} {g : Nat → Nat} (h : Ay w b o n g) (X : Nat → Nat) (p m : Nat) (hp : p + m ≤ n) (hX : ∀ i, i < m → X i < 256) : Ay (w.setCells b (o + p) (ac X m)) b o n (putp g X p m) := by
  have hl := ac_len X m
  refine ⟨Nat.lt_of_lt_of_le h.1 (belowCells (B := 0) b (Nat.zero_le _) (ac X m) (o + p) w (Below.refl _ _)).size, fun i hi => ?_, fun i hi => ⟨?_, by rw [World.frozen?_setCells]; exact (h.2.2 i hi).2⟩⟩
  · unfold putp
    split
    · exact hX _ (by omega)
    · exact h.2.1 i hi
  · unfold putp
    by_cases c : p ≤ i ∧ i < p + m
    · rw [if_pos c]
      have e := World.cell?_setCells_in b (ac X m) (o + p) w (fun j hj => by rw [hl] at hj; rw [Nat.add_assoc]; exact Option.isSome_iff_exists.2 ⟨_, (h.2.2 (p + j) (by omega)).1⟩) (i - p) (by rw [hl]; omega)
      rw [show o + p + (i - p) = o + i from by omega] at e
      rw [e]
      have g2 := ac_get (g := X) (n := m) (j := i - p) (by omega)
      rw [List.getElem?_eq_getElem (by rw [hl]; omega)] at g2
      exact g2
    · rw [if_neg c, World.cell?_setCells_out b (ac X m) (o + p) w _ (fun _ _ => by show o + i < o + p ∨ o + p + (ac X m).length ≤ o + i; rw [hl]; omega)]
      exact (h.2.2 i hi).1
/-- a struct whose building is known. -/
theorem wpList_build_eq {P : Program} {w : World} {ops : Array Oper} {rest : List Oper} {o : Oper} {a : Act} {Q : Exit → Act → World → Prop} (hgd : o.guard = none) (t : TypeId) (parts : List (Nat × Operand))
    (ho : o.op = .build t parts.toArray) (vs : List (Nat × Value)) (hv : (parts.map fun (i, x) => (i, a.eval x)) = vs) (v : Value)
    (hr : (Instr.build t vs.toArray).run P w = .ok v w) (h : wpList P ops Q rest (a.put o.dst v) w) : wpList P ops Q (o :: rest) a w := by
  refine wpList_plain hgd fun K hK => ?_
  subst hv
  unfold Oper.wp execOp
  simp only [ho, Sem.run_bind, Sem.run_pure, Result.andThen_ok, List.map_toArray, hr]
  exact hK _ _ h
def ini (i : Nat) : Nat := if i < 256 then sbox i else 0
theorem build_ini (w : World) : (Instr.build 96 #[(0, .agg (ac sbox 256).toArray)]).run Tryd.prog w = .ok (.agg (ac ini 432).toArray) w := run_build w 96 _ _ (by kernel_rfl)

set_option maxRecDepth 100000 in
set_option maxHeartbeats 4000000 in
theorem newCipher_c (p : Option Addr) (cap : Nat) (K : Nat → Nat) (w : World) (S : Sl w p 16 K) (hK : ∀ i, i < 16 → K i < 256) :
    Calls Tryd.prog 42 #[.slice p 16 cap] w fun e w' => ∃ b, e = .returned (.pointer (some ⟨b, 0, none⟩)) ∧ w.heap.size ≤ b ∧ Ci w' b (kW K) ∧ Below w.heap.size w w' := by
  have HS := Lib.hid S
  have HK := Lib.hid hK
  have BD : Hid (∀ w, (Instr.build 96 [(0, Value.agg (ac sbox 256).toArray)].toArray).run Tryd.prog w = .ok (.agg (ac ini 432).toArray) w) := build_ini
  have DB := Lib.hid (fun x w (hx : x < 256) => double_c x w hx)
  clear S hK
  go_enter Tryd.func42, Tryd.ntmps42
  go_wp2_with fail
  refine (substitutes_c _).mono ?_
  rintro e w1 ⟨rfl, hb1⟩
  have S1 := Lib.hid (HS.out.below hb1)
  have B1 := Lib.hid hb1
  have BX := Lib.hid (hb1.trans ((balloc (brefl w1) (.cells (ac ini 432).toArray 96)).mono hb1.size))
  have I0 := Lib.hid (Ay.newC w1 432 ini 96 (fun i _ => by unfold ini; split; exact sbox_lt _; omega))
  have S2 := Lib.hid (S1.out.below (balloc (brefl w1) (.cells (ac ini 432).toArray 96)))
  have LB := hb1.size
  clear hb1
  go_wp2_with (refine wpList_build_eq rfl 96 [(0, .tmp 6)] rfl [(0, .agg (ac sbox 256).toArray)] rfl _ (BD.out _) ?_)
  generalize w1.alloc (.cells (ac ini 432).toArray 96) = W1 at *
  generalize w1.heap.size = b at *
  have T0 := Lib.hid (((I0.out.part 0 256 (by omega)).eq (g' := sbox) (fun i hi => by unfold ini; rw [Nat.zero_add, if_pos hi])))
  have K0 := Lib.hid (((I0.out.part 256 176 (by omega)).eq (g' := fun _ => 0) (fun i hi => by unfold ini; rw [if_neg (by omega)])))
  refine wp_region_noPanic ?_
  refine wp_region_held_drew (S := fun _ => True) (by kernel_rfl) trivial (fun hHeld => ?_)
  refine wpAnyH_take (i := 0) (v := ?_) rfl (by kernel_rfl) (by kernel_rfl) (by kernel_rfl) (fun _ _ _ h => h) (Or.inl ⟨by rfl, ?_⟩) hHeld ?_
  rotate_left
  · ((intro w _; go_simp); try with_reducible rfl)
  (try simp only [List.getElem_toArray, List.getElem_cons_succ, List.getElem_cons_zero, Act.put, List.setIfInBounds_toArray, List.set_cons_zero, List.set_cons_succ])
  refine wpAnyH_take (i := 1) (v := ?_) rfl (by kernel_rfl) (by kernel_rfl) (by kernel_rfl) (fun _ _ _ h => h) (Or.inl ⟨by rfl, ?_⟩) hHeld ?_
  rotate_left
  · ((intro w _; go_simp); try with_reducible rfl)
  (try simp only [List.getElem_toArray, List.getElem_cons_succ, List.getElem_cons_zero, Act.put, List.setIfInBounds_toArray, List.set_cons_zero, List.set_cons_succ])
  refine wpAnyH_take (i := 3) (v := ?_) rfl (by kernel_rfl) (by kernel_rfl) (by kernel_rfl) (fun _ _ _ h => h) (Or.inl ⟨by rfl, ?_⟩) hHeld ?_
  rotate_left
  · ((intro w _; go_simp); try with_reducible rfl)
  (try simp only [List.getElem_toArray, List.getElem_cons_succ, List.getElem_cons_zero, Act.put, List.setIfInBounds_toArray, List.set_cons_zero, List.set_cons_succ])
  refine wpAnyH_take (i := 4) (v := ?_) rfl (by kernel_rfl) (by kernel_rfl) (by kernel_rfl) (fun _ _ _ h => h) (Or.inl ⟨by rfl, ?_⟩) hHeld ?_
  rotate_left
  · ((intro w _; go_simp); try with_reducible rfl)
  (try simp only [List.getElem_toArray, List.getElem_cons_succ, List.getElem_cons_zero, Act.put, List.setIfInBounds_toArray, List.set_cons_zero, List.set_cons_succ])
  refine wpAnyH_ready (rs := [2]) (by kernel_rfl) (by simp) (AllReadyH.cons rfl (fun KQ hKQ => ?_) AllReadyH.nil)
  go_simp
  refine (toBlock_c p 16 cap K _ (S2.out.below (bdrew1 _ _)) (Nat.le_refl _) HK.out).mono ?_
  rintro e w' ⟨rfl, hb⟩
  have H2 := Lib.hid ((bdrew1 W1.heap.size W1).trans hb)
  clear hb
  go_wp2_with fail
  refine hKQ.out _ _ trivial (fun _ => ?_)
  clear hKQ KQ
  (try simp only [List.getElem_toArray, List.getElem_cons_succ, List.getElem_cons_zero, Act.put, List.setIfInBounds_toArray, List.set_cons_zero, List.set_cons_succ])
  refine wpAnyH_take (i := 5) (v := ?_) rfl (by kernel_rfl) (by kernel_rfl) (by kernel_rfl) (fun _ _ _ h => h) (Or.inl ⟨by rfl, ?_⟩) hHeld ?_
  rotate_left
  · ((intro w _; go_simp); try with_reducible rfl)
  (try simp only [List.getElem_toArray, List.getElem_cons_succ, List.getElem_cons_zero, Act.put, List.setIfInBounds_toArray, List.set_cons_zero, List.set_cons_succ])
  refine wpAnyH_ready (rs := [6]) (by kernel_rfl) (by simp) (AllReadyH.cons rfl (fun KQ hKQ => ?_) AllReadyH.nil)
  rw [if_pos (by rfl)]
  refine wp_store_mid _ _ _ rfl _ _ (ac (pad0 K 16) 16).toArray rfl rfl (by rw [ac_size]; exact ((K0.out.below H2.out).part 0 16 (by omega)).there) (by rw [ac_size]; exact info_blk) (ac_one _ 16) ?_
  rw [List.toList_toArray]
  refine hKQ.out _ _ trivial (fun _ => ?_)
  clear hKQ KQ
  (try simp only [List.getElem_toArray, List.getElem_cons_succ, List.getElem_cons_zero, Act.put, List.setIfInBounds_toArray, List.set_cons_zero, List.set_cons_succ])
  refine wpAnyH_done (by kernel_rfl) ?_ _
  refine NoPanic.normal ?_
  have T1 : Hid (Ay (w'.setCells b 256 (ac (pad0 K 16) 16)) b 0 256 sbox) := Lib.hid ((T0.out.below H2.out).apart b 256 (ac (pad0 K 16) 16) (.inr (.inl (by omega))))
  have K1 : Hid (Ay (w'.setCells b 256 (ac (pad0 K 16) 16)) b 256 176 (putp (fun _ => 0) (pad0 K 16) 0 16)) := Lib.hid (((K0.out.below H2.out).put (pad0 K 16) 0 16 (by omega) (fun i hi => by unfold pad0; rw [if_pos hi]; exact HK.out i hi)))
  have K2 : Hid (Ay (w'.setCells b 256 (ac (pad0 K 16) 16)) b 256 176 (fun j => if j < 16 * (0 + 1) then kW K j else 0)) := Lib.hid (K1.out.eq (fun j _ => by
    unfold putp
    by_cases c : j < 16
    · rw [if_pos (by omega), if_pos (by omega), Nat.sub_zero, kW_key K j c]
      unfold pad0
      rw [if_pos c]
    · rw [if_neg (by omega), if_neg (by omega)]))
  have B2 := Lib.hid (BX.out.trans (belowCells (B := w.heap.size) b LB (ac (pad0 K 16) 16) 256 _ (H2.out.mono BX.out.size)))
  clear H2 T0 K0 I0 S2 S1 BX B1 HS K1
  generalize w'.setCells b 256 (ac (pad0 K 16) 16) = W2 at *
  go_wp2_with fail
  go_loopw [4, 15] (fun s i wr => ∃ r : Nat, r ≤ 10 ∧ i = .int .i64 r ∧ s = .int .u8 (pw (4 * r)) ∧ Ay wr b 0 256 sbox ∧ Ay wr b 256 176 (fun j => if j < 16 * (r + 1) then kW K j else 0) ∧ Below w.heap.size w wr) (fun _ i _ => 10 - (intOf i).toNat)
  case atStart => exact ⟨0, by omega, rfl, rfl, T1.out, K2.out, B2.out⟩
  case round =>
    clear T1 K2 B2
    obtain ⟨r, hk, rfl, rfl, tr, kr, hb⟩ := hrel
    rename World => wr
    have TT := Lib.hid tr
    have KR := Lib.hid kr
    have BB := Lib.hid hb
    have SB := tr.1
    clear tr kr hb
    by_cases c : r < 10
    · have e0 : decide ((r : Int) < 10) = true := by rw [decide_eq_true_iff]; omega
      have RL : Hid (∀ i, i < 16 → kW K (16 * r + i) < 256) := Lib.hid (fun i hi => kW_lt HK.out _ (by omega))
      have NR := Lib.hid (fun i hi => nk_kW K r c i hi)
      have TRH : Hid (wr.drew.rangeAt b (256 + r * 16) (ac (fun i => kW K (16 * r + i)) 16)) := Lib.hid (by
        have := (((KR.out.below (bdrew1 _ _)).part (16 * r) 16 (by omega)).eq (g' := fun i => kW K (16 * r + i)) (fun i hi => by rw [if_pos (by omega)])).range
        rwa [show 256 + 16 * r = 256 + r * 16 from by omega] at this)
      have PL := pw_lt (4 * r)
      have P4 := Lib.hid (pw_4 r)
      have D1 := Lib.hid (fun w => DB.out (pw (4 * r)) w PL)
      rw [← P4.out] at D1
      obtain ⟨R, hR⟩ : ∃ R : Nat → Nat, R = fun i => kW K (16 * r + i) := ⟨_, rfl⟩
      have RLH : Hid (∀ i, i < 16 → R i < 256) := Lib.hid (by rw [hR]; exact RL.out)
      rw [← hR] at TRH NR
      clear hR RL
      generalize pw (4 * r) = s at *
      have NL := Lib.hid (fun i hi => nk_lt RLH.out PL i hi)
      have TR := TRH.out
      have TH : Hid (∀ w', Below wr.heap.size wr w' → w'.there b (256 + (r + 1) * 16) 16) := Lib.hid (fun w' k => by
        have := ((KR.out.below k).part (16 * (r + 1)) 16 (by omega)).there
        rwa [show 256 + 16 * (r + 1) = 256 + (r + 1) * 16 from by omega] at this)
      have r0 : (0 : Int) ≤ (r : Int) := by omega
      have r1 : (r : Int) < 10 := by omega
      have r2 : (r : Int) < 11 := by omega
      have r3 : (r : Int) + 1 < 11 := by omega
      have r4 : (0 : Int) ≤ (r : Int) + 1 := by omega
      have W1 : IntKind.i64.wrap ((r : Int) + 1) = (r : Int) + 1 := wrap_in (by omega) (by omega)
      have r5 : ((r : Int) + 1).toNat = r + 1 := by omega
      go_wp2_with fail
      refine wp_region_noPanic ?_
      refine wp_region_held_drew (S := fun _ => True) (by kernel_rfl) trivial (fun hHeld => ?_)
      refine wpAnyH_take (i := 0) (v := ?_) rfl (by kernel_rfl) (by kernel_rfl) (by kernel_rfl) (fun _ _ _ h => h) (Or.inl ⟨by rfl, ?_⟩) hHeld ?_
      rotate_left
      · ((intro w _; go_simp); try with_reducible rfl)
      (try simp only [List.getElem_toArray, List.getElem_cons_succ, List.getElem_cons_zero, Act.put, List.setIfInBounds_toArray, List.set_cons_zero, List.set_cons_succ])
      refine wpAnyH_take (i := 1) (v := ?_) rfl (by kernel_rfl) (by kernel_rfl) (by kernel_rfl) (fun _ _ _ h => h) (Or.inl ⟨by rfl, ?_⟩) hHeld ?_
      rotate_left
      · ((intro w _; go_simp); try with_reducible rfl)
      (try simp only [List.getElem_toArray, List.getElem_cons_succ, List.getElem_cons_zero, Act.put, List.setIfInBounds_toArray, List.set_cons_zero, List.set_cons_succ])
      refine wpAnyH_take (i := 2) (v := ?_) rfl (by kernel_rfl) (by kernel_rfl) (by kernel_rfl) (fun _ _ _ h => h) (Or.inl ⟨by rfl, ?_⟩) hHeld ?_
      rotate_left
      · ((intro w _; go_simp); try with_reducible rfl)
      (try simp only [List.getElem_toArray, List.getElem_cons_succ, List.getElem_cons_zero, Act.put, List.setIfInBounds_toArray, List.set_cons_zero, List.set_cons_succ])
      refine wpAnyH_take (i := 3) (v := ?_) rfl (by kernel_rfl) (by kernel_rfl) (by kernel_rfl) (fun _ _ _ h => h) (Or.inl ⟨by rfl, ?_⟩) hHeld ?_
      rotate_left
      · ((intro w _; go_simp); try with_reducible rfl)
      (try simp only [List.getElem_toArray, List.getElem_cons_succ, List.getElem_cons_zero, Act.put, List.setIfInBounds_toArray, List.set_cons_zero, List.set_cons_succ])
      refine wpAnyH_take (i := 4) (v := ?_) rfl (by kernel_rfl) (by kernel_rfl) (by kernel_rfl) (fun _ _ _ h => h) (Or.inl ⟨by rfl, ?_⟩) hHeld ?_
      rotate_left
      · ((intro w _; go_simp); try with_reducible rfl)
      (try simp only [List.getElem_toArray, List.getElem_cons_succ, List.getElem_cons_zero, Act.put, List.setIfInBounds_toArray, List.set_cons_zero, List.set_cons_succ])
      refine wpAnyH_take (i := 5) (v := ?_) rfl (by kernel_rfl) (by kernel_rfl) (by kernel_rfl) (fun _ _ _ h => h) (Or.inl ⟨by rfl, ?_⟩) hHeld ?_
      rotate_left
      · ((intro w _; go_simp); try with_reducible rfl)
      (try simp only [List.getElem_toArray, List.getElem_cons_succ, List.getElem_cons_zero, Act.put, List.setIfInBounds_toArray, List.set_cons_zero, List.set_cons_succ])
      refine wpAnyH_take (i := 6) (v := ?_) rfl (by kernel_rfl) (by kernel_rfl) (by kernel_rfl) (fun _ _ _ h => h) (Or.inl ⟨by rfl, ?_⟩) hHeld ?_
      rotate_left
      · ((intro w _; go_simp); try with_reducible rfl)
      (try simp only [List.getElem_toArray, List.getElem_cons_succ, List.getElem_cons_zero, Act.put, List.setIfInBounds_toArray, List.set_cons_zero, List.set_cons_succ])
      refine wpAnyH_take (i := 7) (v := ?_) rfl (by kernel_rfl) (by kernel_rfl) (by kernel_rfl) (fun _ _ _ h => h) (Or.inl ⟨by rfl, ?_⟩) hHeld ?_
      rotate_left
      · ((intro w _; go_simp); try with_reducible rfl)
      (try simp only [List.getElem_toArray, List.getElem_cons_succ, List.getElem_cons_zero, Act.put, List.setIfInBounds_toArray, List.set_cons_zero, List.set_cons_succ])
      refine wpAnyH_take (i := 8) (v := ?_) rfl (by kernel_rfl) (by kernel_rfl) (by kernel_rfl) (fun _ _ _ h => h) (Or.inl ⟨by rfl, ?_⟩) hHeld ?_
      rotate_left
      · ((intro w _; go_simp); try with_reducible rfl)
      (try simp only [List.getElem_toArray, List.getElem_cons_succ, List.getElem_cons_zero, Act.put, List.setIfInBounds_toArray, List.set_cons_zero, List.set_cons_succ])
      refine wpAnyH_take (i := 10) (v := ?_) rfl (by kernel_rfl) (by kernel_rfl) (by kernel_rfl) (fun _ _ _ h => h) (Or.inl ⟨by rfl, ?_⟩) hHeld ?_
      rotate_left
      · ((intro w _; go_simp); try with_reducible rfl)
      (try simp only [List.getElem_toArray, List.getElem_cons_succ, List.getElem_cons_zero, Act.put, List.setIfInBounds_toArray, List.set_cons_zero, List.set_cons_succ])
      refine wpAnyH_take (i := 12) (v := ?_) rfl (by kernel_rfl) (by kernel_rfl) (by kernel_rfl) (fun _ _ _ h => h) (Or.inl ⟨by rfl, ?_⟩) hHeld ?_
      rotate_left
      · ((intro w _; go_simp); try with_reducible rfl)
      (try simp only [List.getElem_toArray, List.getElem_cons_succ, List.getElem_cons_zero, Act.put, List.setIfInBounds_toArray, List.set_cons_zero, List.set_cons_succ])
      refine wpAnyH_take (i := 13) (v := ?_) rfl (by kernel_rfl) (by kernel_rfl) (by kernel_rfl) (fun _ _ _ h => h) (Or.inl ⟨by rfl, ?_⟩) hHeld ?_
      rotate_left
      · ((intro w _; go_simp); try with_reducible rfl)
      (try simp only [List.getElem_toArray, List.getElem_cons_succ, List.getElem_cons_zero, Act.put, List.setIfInBounds_toArray, List.set_cons_zero, List.set_cons_succ])
      refine wpAnyH_ready (rs := [9]) (by kernel_rfl) (by simp) (AllReadyH.cons rfl (fun KQ hKQ => ?_) AllReadyH.nil)
      rw [if_pos (by rfl)]
      refine wp_load_mid _ _ rfl _ _ rfl _ _ TR Tryd.underlying72 rfl (by rw [ac_len]; exact info_blk) ?_
      refine hKQ.out _ _ trivial (fun _ => ?_)
      clear hKQ KQ
      (try simp only [List.getElem_toArray, List.getElem_cons_succ, List.getElem_cons_zero, Act.put, List.setIfInBounds_toArray, List.set_cons_zero, List.set_cons_succ])
      refine wpAnyH_ready (rs := [11]) (by kernel_rfl) (by simp) (AllReadyH.cons rfl (fun KQ hKQ => ?_) AllReadyH.nil)
      go_simp
      refine (nextKey_c b R s _ (TT.out.below (bdrew1 _ _)) RLH.out PL).mono ?_
      rintro e w' ⟨rfl, hb⟩
      have H2 := Lib.hid ((bdrew1 wr.heap.size wr).trans hb)
      clear hb
      go_wp2_with fail
      refine hKQ.out _ _ trivial (fun _ => ?_)
      clear hKQ KQ
      (try simp only [List.getElem_toArray, List.getElem_cons_succ, List.getElem_cons_zero, Act.put, List.setIfInBounds_toArray, List.set_cons_zero, List.set_cons_succ])
      refine wpAnyH_take (i := 14) (v := ?_) rfl (by kernel_rfl) (by kernel_rfl) (by kernel_rfl) (fun _ _ _ h => h) (Or.inl ⟨by rfl, ?_⟩) hHeld ?_
      rotate_left
      · ((intro w _; go_simp); try with_reducible rfl)
      (try simp only [List.getElem_toArray, List.getElem_cons_succ, List.getElem_cons_zero, Act.put, List.setIfInBounds_toArray, List.set_cons_zero, List.set_cons_succ])
      refine wpAnyH_ready (rs := [15]) (by kernel_rfl) (by simp) (AllReadyH.cons rfl (fun KQ hKQ => ?_) AllReadyH.nil)
      rw [if_pos (by rfl)]
      refine wp_store_mid _ _ _ rfl _ _ (ac (nk R s) 16).toArray rfl rfl (by rw [ac_size]; exact TH.out _ H2.out) (by rw [ac_size]; exact info_blk) (ac_one _ 16) ?_
      rw [List.toList_toArray]
      refine hKQ.out _ _ trivial (fun _ => ?_)
      clear hKQ KQ
      (try simp only [List.getElem_toArray, List.getElem_cons_succ, List.getElem_cons_zero, Act.put, List.setIfInBounds_toArray, List.set_cons_zero, List.set_cons_succ])
      refine wpAnyH_done (by kernel_rfl) ?_ _
      refine NoPanic.normal ?_
      have T1 : Hid (Ay (w'.setCells b (256 + (r + 1) * 16) (ac (nk R s) 16)) b 0 256 sbox) := Lib.hid ((TT.out.below H2.out).apart b _ _ (.inr (.inl (by omega))))
      have K1 := Lib.hid ((KR.out.below H2.out).put (nk R s) (16 * (r + 1)) 16 (by omega) NL.out)
      rw [show 256 + 16 * (r + 1) = 256 + (r + 1) * 16 from by omega] at K1
      have K2 : Hid (Ay (w'.setCells b (256 + (r + 1) * 16) (ac (nk R s) 16)) b 256 176 (fun j => if j < 16 * (r + 1 + 1) then kW K j else 0)) := Lib.hid (K1.out.eq (fun j _ => by
        unfold putp
        by_cases c1 : j < 16 * (r + 1)
        · rw [if_neg (by omega)]
          show (if j < 16 * (r + 1) then kW K j else 0) = _
          rw [if_pos c1, if_pos (by omega)]
        · by_cases c2 : j < 16 * (r + 1) + 16
          · rw [if_pos (by omega), if_pos (by omega), NR.out _ (by omega), show 16 * (r + 1) + (j - 16 * (r + 1)) = j from by omega]
          · rw [if_neg (by omega)]
            show (if j < 16 * (r + 1) then kW K j else 0) = _
            rw [if_neg c1, if_neg (by omega)]))
      have B2 := Lib.hid (BB.out.trans (belowCells (B := w.heap.size) b LB (ac (nk R s) 16) (256 + (r + 1) * 16) _ (H2.out.mono BB.out.size)))
      clear H2 K1 TR TRH
      generalize w'.setCells b (256 + (r + 1) * 16) (ac (nk R s) 16) = W3 at *
      go_wp2_with fail
      refine (D1.out _).mono ?_
      rintro e w4 ⟨rfl, rfl⟩
      go_wp2_with fail
      go_roundw
      case rel => exact ⟨r + 1, by omega, by go_num, rfl, T1.out, K2.out, B2.out⟩
      case measure => simp [intOf]; omega
    · have e0 : decide ((r : Int) < 10) = false := by rw [decide_eq_false_iff_not]; omega
      obtain rfl : r = 10 := by omega
      have FI : Hid (Ci wr b (kW K)) := Lib.hid ⟨TT.out, KR.out.eq (fun i hi => by rw [if_pos (by omega)])⟩
      go_wp2_with fail
      go_ret
      exact ⟨b, rfl, LB, FI.out, BB.out⟩
end Go.Proofs.YtbbcgcfahaljoaaDoor.Ae
