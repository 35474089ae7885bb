/-
  A round key out of the one ahead, in numbers; the contract of aes' nextKey.
  Conditions: the cipher's table is S.
-/
import Derived.Test.YtfefkakdhaecpaaAeH
namespace Go.Proofs.Ytfefkakdhaecpaa.Ae
open Go.RowKit By
set_option linter.unusedVariables false
set_option linter.unusedSimpArgs false

/-- what the first word takes in. -/
def ah (k : Nat → Nat) (s i : Nat) : Nat := if i = 0 then sbox (k 13) ^^^ s else if i = 1 then sbox (k 14) else if i = 2 then sbox (k 15) else sbox (k 12)
/-- the next round key. -/
def nk (k : Nat → Nat) (s : Nat) : Nat → Nat
  | 0 => k 0 ^^^ ah k s 0
  | 1 => k 1 ^^^ ah k s 1
  | 2 => k 2 ^^^ ah k s 2
  | 3 => k 3 ^^^ ah k s 3
  | i + 4 => k (i + 4) ^^^ nk k s i
def av (k : Nat → Nat) (s i : Nat) : Nat := if i < 4 then ah k s i else nk k s (i - 4)
theorem ah_lt {k : Nat → Nat} {s : Nat} (hs : s < 256) (i : Nat) : ah k s i < 256 := by
  unfold ah
  split
  · exact lt_xor8 (sbox_lt _) hs
  · split
    · exact sbox_lt _
    · split <;> exact sbox_lt _
theorem nk_av (k : Nat → Nat) (s : Nat) : ∀ i, nk k s i = k i ^^^ av k s i
  | 0 => rfl
  | 1 => rfl
  | 2 => rfl
  | 3 => rfl
  | i + 4 => by
    unfold av
    rw [if_neg (by omega)]
    rfl
theorem nk_lt {k : Nat → Nat} {s : Nat} (hk : ∀ i, i < 16 → k i < 256) (hs : s < 256) : ∀ i, i < 16 → nk k s i < 256
  | 0, _ => lt_xor8 (hk 0 (by omega)) (ah_lt hs 0)
  | 1, _ => lt_xor8 (hk 1 (by omega)) (ah_lt hs 1)
  | 2, _ => lt_xor8 (hk 2 (by omega)) (ah_lt hs 2)
  | 3, _ => lt_xor8 (hk 3 (by omega)) (ah_lt hs 3)
  | i + 4, h => lt_xor8 (hk (i + 4) h) (nk_lt hk hs i (by omega))
theorem av_lt {k : Nat → Nat} {s : Nat} (hk : ∀ i, i < 16 → k i < 256) (hs : s < 256) (i : Nat) (hi : i < 20) : av k s i < 256 := by
  unfold av
  split
  · exact ah_lt hs i
  · exact nk_lt hk hs _ (by omega)

set_option maxRecDepth 100000 in
set_option maxHeartbeats 4000000 in
theorem nextKey_c (b : Nat) (k : Nat → Nat) (s : Nat) (w : World) (C : Ay w b 0 256 sbox) (hk : ∀ i, i < 16 → k i < 256) (hs : s < 256) :
    Calls Try.prog 26 #[.pointer (some ⟨b, 0, none⟩), .agg (ac k 16).toArray, .int .u8 s] w fun e w' => e = .returned (.agg (ac (nk k s) 16).toArray) ∧ Below w.heap.size w w' := by
  have WS := Lib.hid (balloc (balloc (brefl w) (.cells (ac k 16).toArray 38)) (.cells #[.int .u8 0, .int .u8 0, .int .u8 0, .int .u8 0, .int .u8 0, .int .u8 0, .int .u8 0, .int .u8 0, .int .u8 0, .int .u8 0, .int .u8 0, .int .u8 0, .int .u8 0, .int .u8 0, .int .u8 0, .int .u8 0] 38))
  have A0 := Lib.hid ((Ay.newC w 16 k 38 hk).below (balloc (brefl _) (.cells #[.int .u8 0, .int .u8 0, .int .u8 0, .int .u8 0, .int .u8 0, .int .u8 0, .int .u8 0, .int .u8 0, .int .u8 0, .int .u8 0, .int .u8 0, .int .u8 0, .int .u8 0, .int .u8 0, .int .u8 0, .int .u8 0] 38)))
  have R0 := Lib.hid (Ay.new0 (w.alloc (.cells (ac k 16).toArray 38)) 16 38)
  rw [sz_alloc] at R0
  replace R0 : Hid (Ay ((w.alloc (.cells (ac k 16).toArray 38)).alloc (.cells #[.int .u8 0, .int .u8 0, .int .u8 0, .int .u8 0, .int .u8 0, .int .u8 0, .int .u8 0, .int .u8 0, .int .u8 0, .int .u8 0, .int .u8 0, .int .u8 0, .int .u8 0, .int .u8 0, .int .u8 0, .int .u8 0] 38)) (w.heap.size + 1) 0 16 (fun _ => 0)) := R0
  have C0 := Lib.hid (C.below WS.out)
  have CL := C.1
  have HK := Lib.hid hk
  have HS := Lib.hid hs
  clear hk C
  go_enter Try.func26, Try.ntmps26
  go_wp2_with fail
  generalize ((w.alloc (.cells (ac k 16).toArray 38)).alloc (.cells #[.int .u8 0, .int .u8 0, .int .u8 0, .int .u8 0, .int .u8 0, .int .u8 0, .int .u8 0, .int .u8 0, .int .u8 0, .int .u8 0, .int .u8 0, .int .u8 0, .int .u8 0, .int .u8 0, .int .u8 0, .int .u8 0] 38)) = W0 at *
  obtain ⟨a12, _⟩ := A0.out.at (i := 12) (by omega)
  obtain ⟨a13, _⟩ := A0.out.at (i := 13) (by omega)
  obtain ⟨a14, _⟩ := A0.out.at (i := 14) (by omega)
  obtain ⟨a15, _⟩ := A0.out.at (i := 15) (by omega)
  have l12 := HK.out 12 (by omega)
  have l13 := HK.out 13 (by omega)
  have l14 := HK.out 14 (by omega)
  have l15 := HK.out 15 (by omega)
  obtain ⟨s12, _⟩ := C0.out.at l12
  obtain ⟨s13, _⟩ := C0.out.at l13
  obtain ⟨s14, _⟩ := C0.out.at l14
  obtain ⟨s15, _⟩ := C0.out.at l15
  have XO := xor8 (sbox (k 13)) s (sbox_lt _) hs
  have AH : Hid (ah k s 0 = sbox (k 13) ^^^ s ∧ ah k s 1 = sbox (k 14) ∧ ah k s 2 = sbox (k 15) ∧ ah k s 3 = sbox (k 12)) := Lib.hid ⟨rfl, rfl, rfl, rfl⟩
  obtain ⟨h0, h1, h2, h3⟩ := AH.out
  rw [← h0] at XO
  rw [← h1] at s14
  rw [← h2] at s15
  rw [← h3] at s12
  clear h0 h1 h2 h3 AH
  have AN := Lib.hid (fun i => ah_lt (k := k) hs i)
  have AX : Hid (∃ q : Nat → Nat, q = ah k s) := ⟨_, rfl⟩
  obtain ⟨q, hq⟩ := AX.out
  rw [← hq] at XO s14 s15 s12 AN
  have HQ := Lib.hid hq
  clear AX hq
  have KP : Hid (∀ w', Below W0.heap.size W0 w' → w'.cell? ⟨w.heap.size, 12, none⟩ = some (.int .u8 (k 12)) ∧ w'.cell? ⟨w.heap.size, 13, none⟩ = some (.int .u8 (k 13)) ∧ w'.cell? ⟨w.heap.size, 14, none⟩ = some (.int .u8 (k 14)) ∧ w'.cell? ⟨w.heap.size, 15, none⟩ = some (.int .u8 (k 15)) ∧
      w'.cell? ⟨b, k 12, none⟩ = some (.int .u8 (q 3)) ∧ w'.cell? ⟨b, k 13, none⟩ = some (.int .u8 (sbox (k 13))) ∧ w'.cell? ⟨b, k 14, none⟩ = some (.int .u8 (q 1)) ∧ w'.cell? ⟨b, k 15, none⟩ = some (.int .u8 (q 2))) := Lib.hid (fun w' D =>
    ⟨(D.cell (p := ⟨w.heap.size, 12, none⟩) A0.out.1).trans a12, (D.cell (p := ⟨w.heap.size, 13, none⟩) A0.out.1).trans a13, (D.cell (p := ⟨w.heap.size, 14, none⟩) A0.out.1).trans a14, (D.cell (p := ⟨w.heap.size, 15, none⟩) A0.out.1).trans a15,
     (D.cell (p := ⟨b, k 12, none⟩) C0.out.1).trans s12, (D.cell (p := ⟨b, k 13, none⟩) C0.out.1).trans s13, (D.cell (p := ⟨b, k 14, none⟩) C0.out.1).trans s14, (D.cell (p := ⟨b, k 15, none⟩) C0.out.1).trans s15⟩)
  clear a12 a13 a14 a15 s12 s13 s14 s15
  generalize hx : sbox (k 13) = sx13 at *
  clear hx
  generalize k 12 = x12 at *
  generalize k 13 = x13 at *
  generalize k 14 = x14 at *
  generalize k 15 = x15 at *
  have i12 : (x12 : Int) < 256 := by omega
  have i13 : (x13 : Int) < 256 := by omega
  have i14 : (x14 : Int) < 256 := by omega
  have i15 : (x15 : Int) < 256 := by omega
  go_region_held3 (fun w' => w'.cell? ⟨w.heap.size, 12, none⟩ = some (.int .u8 x12) ∧ w'.cell? ⟨w.heap.size, 13, none⟩ = some (.int .u8 x13) ∧ w'.cell? ⟨w.heap.size, 14, none⟩ = some (.int .u8 x14) ∧ w'.cell? ⟨w.heap.size, 15, none⟩ = some (.int .u8 x15) ∧
      w'.cell? ⟨b, x12, none⟩ = some (.int .u8 (q 3)) ∧ w'.cell? ⟨b, x13, none⟩ = some (.int .u8 sx13) ∧ w'.cell? ⟨b, x14, none⟩ = some (.int .u8 (q 1)) ∧ w'.cell? ⟨b, x15, none⟩ = some (.int .u8 (q 2)))
    (first | (refine KP.out _ ?_; repeat (first | exact brefl _ | refine balloc ?_ _ | refine bdr ?_ | (refine Below.setCell ?_ (by simp) _))))
    (fail)
  have Q0 : Hid (Ay ((W0.alloc (.cells #[.int .u8 (q 0), .int .u8 (q 1), .int .u8 (q 2), .int .u8 (q 3)] 54)).drew) W0.heap.size 0 4 q) := Lib.hid ((Ay.newA W0 4 q #[.int .u8 (q 0), .int .u8 (q 1), .int .u8 (q 2), .int .u8 (q 3)] 54 (fun i _ => AN.out i) (fun i hi => by
    match i, hi with
    | 0, _ => rfl
    | 1, _ => rfl
    | 2, _ => rfl
    | 3, _ => rfl)).below (bdrew1 _ _))
  have B1 := Lib.hid ((balloc (brefl W0) (.cells #[.int .u8 (q 0), .int .u8 (q 1), .int .u8 (q 2), .int .u8 (q 3)] 54)).trans (bdrew1 _ _))
  have A1 := Lib.hid (A0.out.below B1.out)
  have R1 := Lib.hid (R0.out.below B1.out)
  have WT := Lib.hid (WS.out.trans (B1.out.mono WS.out.size))
  have GL := R0.out.1
  have NK := Lib.hid (fun i => nk_av k s i)
  have AVL := Lib.hid (fun i (hi : i < 20) => av_lt HK.out HS.out i hi)
  have QA : Hid (∀ i, 0 ≤ i → i < 0 + 4 → q (i % 4) = av k s i) := Lib.hid (fun i _ hi => by
    rw [HQ.out]
    unfold av
    rw [if_pos (by omega), Nat.mod_eq_of_lt (by omega)])
  go_wp2_with fail
  generalize (W0.alloc (.cells #[.int .u8 (q 0), .int .u8 (q 1), .int .u8 (q 2), .int .u8 (q 3)] 54)).drew = W1 at *
  generalize W0.heap.size = g at *
  clear KP
  go_loopw [40] (fun i wr => ∃ m : Nat, m ≤ 16 ∧ i = .int .i64 m ∧ Ay wr w.heap.size 0 16 (fun i => if i < m then nk k s i else k i) ∧ (∃ h : Nat → Nat, Ay wr g 0 4 h ∧ ∀ i, m ≤ i → i < m + 4 → h (i % 4) = av k s i) ∧ Ay wr (w.heap.size + 1) 0 16 (fun _ => 0) ∧ Below w.heap.size w wr) (fun i _ => 16 - (intOf i).toNat)
  case atStart => exact ⟨0, by omega, rfl, A1.out.eq (by simp), ⟨q, Q0.out, QA.out⟩, R1.out, WT.out⟩
  case round =>
    obtain ⟨m, hk, rfl, ar, ⟨h, qr, hh⟩, rr, hb⟩ := hrel
    rename World => wr
    have AR := Lib.hid ar
    have QR := Lib.hid qr
    have HH := Lib.hid hh
    have RR := Lib.hid rr
    have BB := Lib.hid hb
    clear ar qr hh rr hb
    by_cases c : m < 16
    · have e0 : decide ((m : Int) < 16) = true := by rw [decide_eq_true_iff]; omega
      have ql : m % 4 < 4 := Nat.mod_lt _ (by omega)
      obtain ⟨a1, a2⟩ := AR.out.at c
      rw [if_neg (Nat.lt_irrefl _)] at a1
      obtain ⟨q1, q2⟩ := QR.out.at ql
      have HM := HH.out m (Nat.le_refl _) (by omega)
      rw [HM] at q1
      have x1 := HK.out m c
      have x2 := AVL.out m (by omega)
      have XO := xor8 (k m) (av k s m) x1 x2
      rw [← NK.out m] at XO
      have NL : nk k s m < 256 := by rw [NK.out m]; exact lt_xor8 x1 x2
      have T1 := Lib.hid (((AR.out.set0 m (nk k s m) c NL).other (b' := g) (by omega) (m % 4) (.int .u8 ((nk k s m : Nat) : Int))).below (bdrew1 _ _))
      have T2 := Lib.hid (((QR.out.other (b' := w.heap.size) (by omega) m (.int .u8 ((nk k s m : Nat) : Int))).set0 (m % 4) (nk k s m) ql NL).below (bdrew1 _ _))
      have T3 := Lib.hid (((RR.out.other (b' := w.heap.size) (by omega) m (.int .u8 ((nk k s m : Nat) : Int))).other (b' := g) (by omega) (m % 4) (.int .u8 ((nk k s m : Nat) : Int))).below (bdrew1 _ _))
      have HT4 := Lib.hid (((BB.out.setCell (p := ⟨w.heap.size, m, none⟩) (Nat.le_refl _) (.int .u8 ((nk k s m : Nat) : Int))).setCell (p := ⟨g, m % 4, none⟩) (show w.heap.size ≤ g by omega) (.int .u8 ((nk k s m : Nat) : Int))).trans (bdrew1 _ _))
      have UA : Hid (∀ i, i < 16 → up (fun i => if i < m then nk k s i else k i) m (nk k s m) i = if i < m + 1 then nk k s i else k i) := Lib.hid (fun i hi => by
        unfold up
        by_cases e : i = m
        · subst e; simp
        · rw [if_neg e]
          show (if i < m then nk k s i else k i) = _
          by_cases e' : i < m
          · rw [if_pos e', if_pos (by omega)]
          · rw [if_neg e', if_neg (by omega)])
      have UQ : Hid (∀ i, m + 1 ≤ i → i < m + 1 + 4 → up h (m % 4) (nk k s m) (i % 4) = av k s i) := Lib.hid (fun i h1 h2 => by
        unfold up
        by_cases e : i = m + 4
        · subst e
          rw [if_pos (by omega)]
          unfold av
          rw [if_neg (by omega)]
          rfl
        · rw [if_neg (by omega)]
          exact HH.out i (by omega) (by omega))
      have d1 : (m : Int).tmod 4 = ((m % 4 : Nat) : Int) := by rw [Int.tmod_eq_emod_of_nonneg (by omega)]; omega
      have ne1 : ¬ g = w.heap.size := by omega
      have ne2 : ¬ w.heap.size = g := by omega
      clear HM
      generalize nk k s m = z at *
      generalize av k s m = y at *
      generalize k m = x at *
      generalize m % 4 = p at *
      have k0 : (0 : Int) ≤ (m : Int) := by omega
      have k1 : (m : Int) < 16 := by omega
      have p1 : (p : Int) < 4 := by omega
      go_wp2_with fail
      go_region
      go_wp2_with fail
      exact ⟨⟨m + 1, by omega, by go_num, T1.out.eq UA.out, ⟨_, T2.out, UQ.out⟩, T3.out, HT4.out⟩, by simp [intOf]; omega⟩
    · have e0 : decide ((m : Int) < 16) = false := by rw [decide_eq_false_iff_not]; omega
      obtain rfl : m = 16 := by omega
      have AW := Lib.hid (AR.out.eq (g' := nk k s) (fun i hi => by simp [hi]))
      have VL : ∀ i, i < 16 → nk k s i < 256 := AW.out.2.1
      have FI := Lib.hid (Ay.mk_cells (g := nk k s) RR.out.1 RR.out.there VL)
      have FB := Lib.hid (belowCells (B := w.heap.size) (w.heap.size + 1) (by omega) (ac (nk k s) 16) 0 wr BB.out)
      have SE := run_store_ac (P := Try.prog) RR.out.there (nk k s)
      go_wp2_with (refine wpList_load_mid rfl 38 _ rfl _ 0 rfl (ac (nk k s) 16) _ AW.out.range Try.underlying38 rfl (by rw [ac_len]; exact info_blk) ?_)
      refine bodyPost_ret (v := .agg (ac (nk k s) 16).toArray) (results_cell_mid rfl _ _ (w.heap.size + 1) _ _ rfl FI.out.range Try.underlying38 rfl (by rw [ac_len]; exact info_blk)) rfl ⟨rfl, FB.out⟩
end Go.Proofs.Ytfefkakdhaecpaa.Ae
