/-
  The round keys in numbers; the contract of sundialref05.keys.
  Conditions: a key of sixteen bytes is handed in.
-/
import Derived.Test.YtfefkakdhaecpaaAeD
namespace Go.Proofs.Ytfefkakdhaecpaa.Ae
open Go.RowKit By
set_option linter.unusedVariables false
set_option linter.unusedSimpArgs false

/-- 1, 2, 4, .. in the field: ahead of word t. -/
def pw : Nat → Nat
  | 0 => 1
  | t + 1 => if t % 4 = 0 then gm (pw t) 2 else pw t
/-- what the word behind sixteen bytes and t words takes in, byte k. -/
def kt (W : Nat → Nat) (t k : Nat) : Nat :=
  if t % 4 = 0 then (if k = 0 then sbox (W (4 * t + 13)) ^^^ pw t else if k = 1 then sbox (W (4 * t + 14)) else if k = 2 then sbox (W (4 * t + 15)) else sbox (W (4 * t + 12))) else W (4 * t + 12 + k)
/-- the round keys' bytes, as far as t words are there. -/
def kX (K : Nat → Nat) : Nat → Nat → Nat
  | 0 => K
  | t + 1 => fun j => if j < 16 + 4 * t then kX K t j else kX K t (j - 16) ^^^ kt (kX K t) t (j - (16 + 4 * t))
theorem pw_lt : ∀ t, pw t < 256
  | 0 => by simp [pw]
  | t + 1 => by
    simp only [pw]
    split
    · exact gm_lt (pw_lt t)
    · exact pw_lt t
theorem kt_lt {W : Nat → Nat} (h : ∀ i, W i < 256) (t k : Nat) : kt W t k < 256 := by
  unfold kt
  split
  · split
    · exact lt_xor8 (sbox_lt _) (pw_lt t)
    · split
      · exact sbox_lt _
      · split
        · exact sbox_lt _
        · exact sbox_lt _
  · exact h _
theorem kX_lt {K : Nat → Nat} (h : ∀ i, K i < 256) : ∀ t i, kX K t i < 256
  | 0, i => h i
  | t + 1, i => by
    show (if i < 16 + 4 * t then _ else _) < _
    split
    · exact kX_lt h t i
    · exact lt_xor8 (kX_lt h t _) (kt_lt (kX_lt h t) t _)
theorem kX_old (K : Nat → Nat) (t j : Nat) (h : j < 16 + 4 * t) : kX K (t + 1) j = kX K t j := by
  show (if j < 16 + 4 * t then _ else _) = _
  rw [if_pos h]
theorem kX_new (K : Nat → Nat) (t k : Nat) (h : k < 4) : kX K (t + 1) (16 + 4 * t + k) = kX K (t + 1) (4 * t + k) ^^^ kt (kX K t) t k := by
  rw [kX_old K t (4 * t + k) (by omega)]
  show (if 16 + 4 * t + k < 16 + 4 * t then _ else _) = _
  rw [if_neg (by omega), show 16 + 4 * t + k - 16 = 4 * t + k from by omega, show 16 + 4 * t + k - (16 + 4 * t) = k from by omega]

/-- app1, and what it leaves alone. -/
theorem app1g {w : World} {base : Nat} {v : Value} {l : List Nat} (h : Own w base v l) (x : Nat) (hb : base ≤ w.heap.size) (hn : l.length + 1 ≤ 140737488355328) (ty : TypeId) :
    ∃ v' w', (Builtin.append_ #[22, 22] ty #[v, .slice (some ⟨w.heap.size, 0, none⟩) 1 1]).run Try.prog (w.alloc (.cells #[.int .u8 (x : Int)] 5)) = .ok v' w' ∧ Own w' base v' (l ++ [x]) ∧ Below base w w' ∧ (∀ k, k < w.heap.size → some k ≠ v.ownBlock → w'.heap[k]? = w.heap[k]?) ∧ (v'.ownBlock = v.ownBlock ∨ v'.ownBlock = some (w.heap.size + 1)) := by
  obtain ⟨i, hi, hz, hs, hby⟩ := info_parts info_u8
  obtain ⟨v', w', hr, ho, hg, _, hv⟩ := run_append_own_at (P := Try.prog) (w.alloc (.cells #[.int .u8 (x : Int)] 5)) base 22 ty 5 i (.int .u8 0) 1 1 Try.underlying22 hi hz hs hby rfl (by decide) v l.length (cl l) (World.ownsRow.alloc h _) ⟨w.heap.size, 0, none⟩ 1 1 (cl [x]) rfl
    (by intro j u hj; cases j with | zero => (simp [cl] at hj; subst hj; simp [Addr.add, go_sem]) | succ j => simp [cl] at hj) (cl_one _) (by unfold maxLen; omega) (by omega) (by simp; omega)
  have hB : Below base w (w.alloc (.cells #[.int .u8 (x : Int)] 5)) := (Below.refl base w).alloc hb _
  have hB2 := hB.grown hg (by simp; omega) h.block
  have ha := Below.block ((Below.refl w.heap.size w).alloc (Nat.le_refl _) (.cells #[.int .u8 (x : Int)] 5))
  refine ⟨v', w', hr, ?_, hB2, fun k hk hne => (hg.block k (by simp; omega) hne).trans (ha k hk), by simpa using hv⟩
  unfold Own
  rw [cl_app, List.length_append]
  exact ho
/-- a slice of four bytes, laid anew. -/
theorem bs4 (w : World) (f : Nat → Nat) (hf : ∀ i, f i < 256) : Bs (w.alloc (.cells #[.int .u8 (f 0 : Int), .int .u8 (f 1 : Int), .int .u8 (f 2 : Int), .int .u8 (f 3 : Int)] 5)) w.heap.size 0 4 f :=
  ⟨by simp, hf, fun i hi => by
    rw [Nat.zero_add, World.cell?_alloc_mark w _ _ (0, 0) i]
    match i, hi with
    | 0, _ => rfl
    | 1, _ => rfl
    | 2, _ => rfl
    | 3, _ => rfl⟩
theorem bs_keep {w w' : World} {b off n : Nat} {f : Nat → Nat} (h : Bs w b off n f) (hk : w'.heap[b]? = w.heap[b]?) (hs : w.heap.size ≤ w'.heap.size) : Bs w' b off n f :=
  ⟨Nat.lt_of_lt_of_le h.1 hs, h.2.1, fun i hi => (World.cell?_of_block (a := ⟨b, off + i, none⟩) hk).trans (h.2.2 i hi)⟩

set_option maxRecDepth 100000 in
set_option maxHeartbeats 8000000 in
theorem rkeys_c (b o cap : Nat) (K : Nat → Nat) (w : World) (B : Bs w b o 16 K) :
    Calls Try.prog 20 #[.slice (some ⟨b, o, none⟩) 16 cap] w fun e w' => (∃ v, e = .returned v ∧ Own w' w.heap.size v (bl (kX K 40) 176)) ∧ Below w.heap.size w w' := by
  have HK := Lib.hid B.2.1
  have SB := Lib.hid (fun x w (hx : x < 256) => rsub_c x w hx)
  have TM := Lib.hid (fun x y w (hx : x < 256) (hy : y < 256) => rtimes_c x y w hx hy)
  obtain ⟨v0, w0, r0, o0, b0, s0⟩ := appB (Own.nil w w.heap.size) B cap (Nat.le_refl _) (by simp) 22
  rw [List.nil_append] at o0
  have R0 := Lib.hid r0
  have O0 : Hid (Own w0 w.heap.size v0 (bl (kX K 0) 16)) := Lib.hid o0
  have B0 := Lib.hid b0
  clear B r0 o0 b0 s0
  go_enter Try.func20, Try.ntmps20
  go_wp2_with (at_builtin; refine wpList_append_eq rfl _ _ 22 rfl _ _ v0 w0 rfl rfl R0.out ?_)
  clear R0
  go_loopw [3, 4, 5] (fun v p i wr => ∃ t : Nat, t ≤ 40 ∧ i = .int .i64 ((16 + 4 * t : Nat) : Int) ∧ p = .int .u8 (pw t) ∧ Own wr w.heap.size v (bl (kX K t) (16 + 4 * t)) ∧ Below w.heap.size w wr) (fun _ _ i _ => 176 - (intOf i).toNat)
  case atStart => exact ⟨0, by omega, rfl, rfl, O0.out, B0.out⟩
  case round =>
    clear O0 B0
    obtain ⟨t, ht, rfl, rfl, own, hb⟩ := hrel
    rename World => wr
    by_cases c : t < 40
    · have e0 : decide (16 + 4 * (t : Int) < 176) = true := by rw [decide_eq_true_iff]; omega
      obtain ⟨gw, cw, rfl, gb, BW, hc1, hc2⟩ := OwnB own (by omega) (kX_lt HK.out t)
      have BP := BW.part (12 + 4 * t) 4 (by omega)
      obtain ⟨v1, w1, r1, o1, b1, s1⟩ := appB (Own.nil wr wr.heap.size) BP (cw - (12 + 4 * t)) (Nat.le_refl _) (by simp) 22
      rw [List.nil_append] at o1
      obtain ⟨gt1, ct1, rfl, tb1, BT1, tc1, tc2⟩ := OwnB o1 (by omega) (fun i => kX_lt HK.out t _)
      have R1 : Hid ((Builtin.append_ #[22, 22] 22 #[.slice none 0 0, .slice (some ⟨gw, 16 + 4 * t - 4, none⟩) (16 + 4 * t - (16 + 4 * t - 4)) (cw - (16 + 4 * t - 4))]).run Try.prog wr = .ok (.slice (some ⟨gt1, 0, none⟩) 4 ct1) w1) := Lib.hid (by
        rw [show 16 + 4 * t - (16 + 4 * t - 4) = 4 from by omega, show cw - (16 + 4 * t - 4) = cw - (12 + 4 * t) from by omega, show 16 + 4 * t - 4 = 0 + (12 + 4 * t) from by omega]
        exact r1)
      have tt0 : (0 : Int) ≤ (t : Int) := by omega
      have tt1 : (t : Int) ≤ 39 := by omega
      have cwi : 16 + 4 * (t : Int) ≤ (cw : Int) := by omega
      have cwj : (cw : Int) ≤ 9223372036854775807 := by omega
      have cne : ¬ cw = 12 + 4 * t := by omega
      by_cases c4 : t % 4 = 0
      · obtain ⟨r4, m41⟩ : ∃ r : Int, (16 + 4 * (t : Int)) % 16 = r := ⟨_, rfl⟩
        have m42 : 4 * (t : Int) % 16 = r4 := by omega
        have e4 : (r4 == 0) = true := by simp; omega
        have PW : Hid (pw (t + 1) = gm (pw t) 2) := Lib.hid (if_pos c4)
        have W4 := BW.below b1
        have gwl := BW.1
        have KP : Hid (∀ w' : World, Below w1.heap.size w1 w' → w'.cell? ⟨gw, 4 * t + 13, none⟩ = some (.int .u8 (kX K t (4 * t + 13) : Int)) ∧ w'.cell? ⟨gw, 4 * t + 14, none⟩ = some (.int .u8 (kX K t (4 * t + 14) : Int)) ∧ w'.cell? ⟨gw, 4 * t + 15, none⟩ = some (.int .u8 (kX K t (4 * t + 15) : Int)) ∧ w'.cell? ⟨gw, 4 * t + 12, none⟩ = some (.int .u8 (kX K t (4 * t + 12) : Int))) := Lib.hid fun w' D => by
          have h := (W4.below D).2.2
          have h1 := h (4 * t + 13) (by omega)
          have h2 := h (4 * t + 14) (by omega)
          have h3 := h (4 * t + 15) (by omega)
          have h0 := h (4 * t + 12) (by omega)
          rw [Nat.zero_add] at h1 h2 h3 h0
          exact ⟨h1, h2, h3, h0⟩
        have S1 := Lib.hid (fun w => SB.out (kX K t (4 * t + 13)) w (kX_lt HK.out t _))
        have S2 := Lib.hid (fun w => SB.out (kX K t (4 * t + 14)) w (kX_lt HK.out t _))
        have S3 := Lib.hid (fun w => SB.out (kX K t (4 * t + 15)) w (kX_lt HK.out t _))
        have S0 := Lib.hid (fun w => SB.out (kX K t (4 * t + 12)) w (kX_lt HK.out t _))
        have TC : Hid (∀ w, Calls Try.prog 33 #[.int .u8 (pw t : Int), .int .u8 2] w fun e w' => e = .returned (.int .u8 (gm (pw t) 2 : Int)) ∧ w' = w) := Lib.hid (fun w => TM.out (pw t) 2 w (pw_lt t) (by omega))
        have T0 : Hid (kt (kX K t) t 0 = sbox (kX K t (4 * t + 13)) ^^^ pw t) := Lib.hid (by unfold kt; rw [if_pos c4, if_pos rfl])
        have T1 : Hid (kt (kX K t) t 1 = sbox (kX K t (4 * t + 14))) := Lib.hid (by unfold kt; rw [if_pos c4, if_neg (by decide), if_pos rfl])
        have T2 : Hid (kt (kX K t) t 2 = sbox (kX K t (4 * t + 15))) := Lib.hid (by unfold kt; rw [if_pos c4, if_neg (by decide), if_neg (by decide), if_pos rfl])
        have T3 : Hid (kt (kX K t) t 3 = sbox (kX K t (4 * t + 12))) := Lib.hid (by unfold kt; rw [if_pos c4, if_neg (by decide), if_neg (by decide), if_neg (by decide)])
        have XO := xor8 (sbox (kX K t (4 * t + 13))) (pw t) (sbox_lt _) (pw_lt t)
        rw [← T0.out] at XO
        have LT := Lib.hid (kt_lt (kX_lt HK.out t) t)
        have OK1 := Lib.hid (own_below own b1)
        have BX1 := Lib.hid (hb.trans (b1.mono hb.size))
        have OLD : Hid (bl (kX K (t + 1)) (16 + 4 * t) = bl (kX K t) (16 + 4 * t)) := Lib.hid (bl_congr (fun i hi => kX_old K t i hi))
        have GW1 : Hid (gw < w1.heap.size) := Lib.hid (by omega)
        clear own hb o1 b1 BT1 BW BP r1 s1 W4 gwl
        go_wp2_with (at_builtin; refine wpList_append_eq rfl _ _ 22 rfl _ _ (.slice (some ⟨gt1, 0, none⟩) 4 ct1) w1 rfl rfl R1.out ?_)
        rw [m41]
        have tn1 : (16 + 4 * (t : Int) - 3).toNat = 4 * t + 13 := by omega
        have tn2 : (16 + 4 * (t : Int) - 2).toNat = 4 * t + 14 := by omega
        have tn3 : (16 + 4 * (t : Int) - 1).toNat = 4 * t + 15 := by omega
        have tn0 : (16 + 4 * (t : Int) - 4).toNat = 4 * t + 12 := by omega
        have V1 : IntKind.i64.wrap (16 + 4 * (t : Int) - 3) = 16 + 4 * (t : Int) - 3 := wrap_in (by omega) (by omega)
        have V2 : IntKind.i64.wrap (16 + 4 * (t : Int) - 2) = 16 + 4 * (t : Int) - 2 := wrap_in (by omega) (by omega)
        have V3 : IntKind.i64.wrap (16 + 4 * (t : Int) - 1) = 16 + 4 * (t : Int) - 1 := wrap_in (by omega) (by omega)
        have V0 : IntKind.i64.wrap (16 + 4 * (t : Int) - 4) = 16 + 4 * (t : Int) - 4 := wrap_in (by omega) (by omega)
        have b3a : (3 : Int) ≤ 16 + 4 * (t : Int) := by omega
        have b3b : (0 : Int) ≤ 16 + 4 * (t : Int) - 3 := by omega
        have b3c : 16 + 4 * (t : Int) - 3 < 16 + 4 * (t : Int) := by omega
        have b2a : (2 : Int) ≤ 16 + 4 * (t : Int) := by omega
        have b2b : (0 : Int) ≤ 16 + 4 * (t : Int) - 2 := by omega
        have b2c : 16 + 4 * (t : Int) - 2 < 16 + 4 * (t : Int) := by omega
        have b1a : (1 : Int) ≤ 16 + 4 * (t : Int) := by omega
        have b1b : (0 : Int) ≤ 16 + 4 * (t : Int) - 1 := by omega
        have b1c : 16 + 4 * (t : Int) - 1 < 16 + 4 * (t : Int) := by omega
        have b4a : (4 : Int) ≤ 16 + 4 * (t : Int) := by omega
        have b4b : (0 : Int) ≤ 16 + 4 * (t : Int) - 4 := by omega
        have b4c : 16 + 4 * (t : Int) - 4 < 16 + 4 * (t : Int) := by omega
        have TE1 := T1.out
        have TE2 := T2.out
        have TE3 := T3.out
        generalize hq1 : sbox (kX K t (4 * t + 13)) = q1 at *
        generalize hq2 : sbox (kX K t (4 * t + 14)) = q2 at *
        generalize hq3 : sbox (kX K t (4 * t + 15)) = q3 at *
        generalize hq0 : sbox (kX K t (4 * t + 12)) = q0 at *
        clear hq0 hq1 hq2 hq3
        have hb0 : Below w1.heap.size w1 w1.drew := (brefl w1).drew
        have hS := KP.out _ hb0
        go_region_held3 (fun w' => w'.cell? ⟨gw, 4 * t + 13, none⟩ = some (.int .u8 (kX K t (4 * t + 13) : Int)) ∧ w'.cell? ⟨gw, 4 * t + 14, none⟩ = some (.int .u8 (kX K t (4 * t + 14) : Int)) ∧ w'.cell? ⟨gw, 4 * t + 15, none⟩ = some (.int .u8 (kX K t (4 * t + 15) : Int)) ∧ w'.cell? ⟨gw, 4 * t + 12, none⟩ = some (.int .u8 (kX K t (4 * t + 12) : Int)))
          (first | exact KP.out _ (by assumption) | exact KP.out _ (balloc (by assumption) _))
          (first | (go_at_call 32; with_reducible refine (S1.out _).mono ?_; rintro e w' ⟨rfl, hb⟩; replace hb := bstep (a := w1) (by assumption) hb) | (go_at_call 32; with_reducible refine (S2.out _).mono ?_; rintro e w' ⟨rfl, hb⟩; replace hb := bstep (a := w1) (by assumption) hb) | (go_at_call 32; with_reducible refine (S3.out _).mono ?_; rintro e w' ⟨rfl, hb⟩; replace hb := bstep (a := w1) (by assumption) hb) | (go_at_call 32; with_reducible refine (S0.out _).mono ?_; rintro e w' ⟨rfl, hb⟩; replace hb := bstep (a := w1) (by assumption) hb))
        all_goals
          clear tn1 tn2 tn3 tn0 V1 V2 V3 V0 b1a b1b b1c b2a b2b b2c b3a b3b b3c b4a b4b b4c
          have Z := bs4 w' (kt (kX K t) t) LT.out
          rw [TE1, TE2, TE3] at Z
          have BT := Lib.hid Z
          have D := balloc hb (.cells #[.int .u8 (kt (kX K t) t 0 : Int), .int .u8 (q2 : Int), .int .u8 (q3 : Int), .int .u8 (q0 : Int)] 5)
          have ON : Hid (Own (w'.alloc (.cells #[.int .u8 (kt (kX K t) t 0 : Int), .int .u8 (q2 : Int), .int .u8 (q3 : Int), .int .u8 (q0 : Int)] 5)) w.heap.size (.slice (some ⟨gw, 0, none⟩) (16 + 4 * t) cw) (bl (kX K (t + 1)) (16 + 4 * t + 0))) := Lib.hid (by
            show Own _ _ _ (bl (kX K (t + 1)) (16 + 4 * t))
            rw [OLD.out]
            exact own_below OK1.out D)
          have NE : Hid ((Value.slice (some ⟨gw, 0, none⟩) (16 + 4 * t) cw).ownBlock ≠ some w'.heap.size) := Lib.hid (fun e => by
            have e2 : gw = w'.heap.size := Option.some.inj e
            have := GW1.out
            have := hb.size
            omega)
          have BX := Lib.hid (BX1.out.trans (D.mono BX1.out.size))
          clear D Z OK1 BX1 hb KP S1 S2 S3 S0 T0 T1 T2 T3 TE1 TE2 TE3 XO GW1 OLD
          go_wp2_with fail
          refine (TC.out _).mono ?_
          rintro e w8 ⟨rfl, rfl⟩
          go_wp2_with fail
          clear hS TC R1
          generalize w'.alloc (.cells #[.int .u8 (kt (kX K t) t 0 : Int), .int .u8 (q2 : Int), .int .u8 (q3 : Int), .int .u8 (q0 : Int)] 5) = W7 at *
          generalize w'.heap.size = gt2 at *
          generalize kt (kX K t) t 0 = z0 at *
          generalize kX K t (4 * t + 13) = y1 at *
          generalize kX K t (4 * t + 14) = y2 at *
          generalize kX K t (4 * t + 15) = y3 at *
          generalize kX K t (4 * t + 12) = y0 at *
          go_loopw [3, 7] (fun v i w5 => ∃ k : Nat, k ≤ 4 ∧ i = .int .i64 k ∧ Own w5 w.heap.size v (bl (kX K (t + 1)) (16 + 4 * t + k)) ∧ Bs w5 gt2 0 4 (kt (kX K t) t) ∧ v.ownBlock ≠ some gt2 ∧ Below w.heap.size w w5) (fun _ i _ => 4 - (intOf i).toNat)
          case atStart => exact ⟨0, by omega, rfl, ON.out, BT.out, NE.out, BX.out⟩
          case round =>
            clear ON BT BX NE
            obtain ⟨k, hk, rfl, own, bt, ne, hb⟩ := hrel
            rename World => w5
            have HB5 := Lib.hid hb
            have BT5 := Lib.hid bt
            by_cases ck : k < 4
            · have e1 : decide ((k : Int) < 4) = true := by rw [decide_eq_true_iff]; omega
              obtain ⟨gv, cv, rfl, gvb, BV, vc1, vc2⟩ := OwnB own (by omega) (kX_lt HK.out (t + 1))
              have g1 := BV.2.2 (4 * t + k) (by omega)
              have g2 := bt.2.2 k ck
              rw [Nat.zero_add] at g1 g2
              have x1 := kX_lt HK.out (t + 1) (4 * t + k)
              have x2 := kt_lt (kX_lt HK.out t) t k
              have NX : Hid (kX K (t + 1) (16 + 4 * t + k) = kX K (t + 1) (4 * t + k) ^^^ kt (kX K t) t k) := Lib.hid (kX_new K t k ck)
              have XO := xor8 _ _ x1 x2
              rw [← NX.out] at XO
              obtain ⟨v2, w6, hr, ho, hb2, hk2, hv2⟩ := app1g (w := w5.drew) (World.ownsRow.drew own) (kX K (t + 1) (16 + 4 * t + k)) hb.size (by rw [bl_len]; omega) 22
              have HR : Hid ((Builtin.append_ #[22, 22] 22 #[.slice (some ⟨gv, 0, none⟩) (16 + 4 * t + k) cv, .slice (some ⟨w5.heap.size, 0, none⟩) 1 1]).run Try.prog (w5.drew.alloc (.cells #[.int .u8 ((kX K (t + 1) (16 + 4 * t + k) : Nat) : Int)] 5)) = .ok v2 w6) := Lib.hid hr
              have HO : Hid (Own w6 w.heap.size v2 (bl (kX K (t + 1)) (16 + 4 * t + (k + 1)))) := Lib.hid (by rw [← Nat.add_assoc, bl_succ]; exact ho)
              have HT : Hid (Bs w6 gt2 0 4 (kt (kX K t) t)) := Lib.hid (bs_keep bt (hk2 gt2 bt.1 (fun e => ne e.symm)) hb2.size)
              have HN : Hid (v2.ownBlock ≠ some gt2) := Lib.hid (fun e => by
                rcases hv2 with h | h
                · rw [h] at e; exact ne e
                · rw [h] at e
                  have := bt.1
                  have e2 : w5.heap.size + 1 = gt2 := Option.some.inj e
                  omega)
              have HB6 := Lib.hid ((hb.trans (bdrew1 _ _)).trans hb2)
              clear hr ho hb2 hk2 hv2 own bt hb BV ne NX
              generalize kX K (t + 1) (16 + 4 * t + k) = z at *
              generalize kX K (t + 1) (4 * t + k) = x at *
              generalize kt (kX K t) t k = y at *
              have k0 : (0 : Int) ≤ (k : Int) := by omega
              have k1 : (k : Int) ≤ 3 := by omega
              have V1 : IntKind.i64.wrap (16 + 4 * (t : Int) - 16) = 4 * (t : Int) := by rw [wrap_in (by omega) (by omega)]; omega
              have V2 : IntKind.i64.wrap (4 * (t : Int) + (k : Int)) = 4 * (t : Int) + (k : Int) := wrap_in (by omega) (by omega)
              have in1 : 4 * (t : Int) + (k : Int) < 16 + 4 * (t : Int) + (k : Int) := by omega
              have in2 : (k : Int) < 4 := by omega
              have in3 : (0 : Int) ≤ 4 * (t : Int) + (k : Int) := by omega
              go_wp2_with fail
              have tn : (4 * (t : Int) + (k : Int)).toNat = 4 * t + k := by omega
              go_region_law (refine step_append_eq rfl (.tmp 58) (.tmp 71) 22 rfl _ _ v2 w6 rfl rfl HR.out ?_)
              all_goals
                go_wp2_with fail
                go_roundw
                case rel => exact ⟨k + 1, by omega, by go_num, HO.out, HT.out, HN.out, HB6.out⟩
                case measure => simp [intOf]; omega
            · have e1 : decide ((k : Int) < 4) = false := by rw [decide_eq_false_iff_not]; omega
              obtain rfl : k = 4 := by omega
              clear bt hb
              have OW := Lib.hid own
              clear own
              go_wp2_with fail
              go_roundw
              case rel => exact ⟨t + 1, by omega, by rw [show 16 + 4 * (t + 1) = 16 + 4 * t + 4 from by omega]; go_num, by rw [PW.out], by rw [show 16 + 4 * (t + 1) = 16 + 4 * t + 4 from by omega]; exact OW.out, HB5.out⟩
              case measure => simp [intOf]; omega
      · obtain ⟨r4, m41⟩ : ∃ r : Int, (16 + 4 * (t : Int)) % 16 = r := ⟨_, rfl⟩
        have m42 : 4 * (t : Int) % 16 = r4 := by omega
        have e4 : (r4 == 0) = false := by simp; omega
        have PW : Hid (pw (t + 1) = pw t) := Lib.hid (if_neg c4)
        have ON : Hid (Own w1 w.heap.size (.slice (some ⟨gw, 0, none⟩) (16 + 4 * t) cw) (bl (kX K (t + 1)) (16 + 4 * t + 0))) := Lib.hid (by
          have e : bl (kX K (t + 1)) (16 + 4 * t) = bl (kX K t) (16 + 4 * t) := bl_congr (fun i hi => kX_old K t i hi)
          show Own _ _ _ (bl (kX K (t + 1)) (16 + 4 * t))
          rw [e]
          exact own_below own b1)
        have BT : Hid (Bs w1 gt1 0 4 (kt (kX K t) t)) := Lib.hid (by
          have e : kt (kX K t) t = fun i => kX K t (12 + 4 * t + i) := by
            funext i
            unfold kt
            rw [if_neg c4, show 4 * t + 12 + i = 12 + 4 * t + i from by omega]
          rw [e]
          exact BT1)
        have NE : Hid ((Value.slice (some ⟨gw, 0, none⟩) (16 + 4 * t) cw).ownBlock ≠ some gt1) := Lib.hid (fun e => by
          have e2 : gw = gt1 := Option.some.inj e
          have := BW.1
          omega)
        have BX := Lib.hid (hb.trans (b1.mono hb.size))
        clear own hb o1 b1 BT1 BW BP r1 s1
        go_wp2_with (at_builtin; refine wpList_append_eq rfl _ _ 22 rfl _ _ (.slice (some ⟨gt1, 0, none⟩) 4 ct1) w1 rfl rfl R1.out ?_)
        rw [m41]
        go_loopw [3, 7] (fun v i w5 => ∃ k : Nat, k ≤ 4 ∧ i = .int .i64 k ∧ Own w5 w.heap.size v (bl (kX K (t + 1)) (16 + 4 * t + k)) ∧ Bs w5 gt1 0 4 (kt (kX K t) t) ∧ v.ownBlock ≠ some gt1 ∧ Below w.heap.size w w5) (fun _ i _ => 4 - (intOf i).toNat)
        case atStart => exact ⟨0, by omega, rfl, ON.out, BT.out, NE.out, BX.out⟩
        case round =>
          clear ON BT BX NE
          obtain ⟨k, hk, rfl, own, bt, ne, hb⟩ := hrel
          rename World => w5
          have HB5 := Lib.hid hb
          have BT5 := Lib.hid bt
          by_cases ck : k < 4
          · have e1 : decide ((k : Int) < 4) = true := by rw [decide_eq_true_iff]; omega
            obtain ⟨gv, cv, rfl, gvb, BV, vc1, vc2⟩ := OwnB own (by omega) (kX_lt HK.out (t + 1))
            have g1 := BV.2.2 (4 * t + k) (by omega)
            have g2 := bt.2.2 k ck
            rw [Nat.zero_add] at g1 g2
            have x1 := kX_lt HK.out (t + 1) (4 * t + k)
            have x2 := kt_lt (kX_lt HK.out t) t k
            have NX : Hid (kX K (t + 1) (16 + 4 * t + k) = kX K (t + 1) (4 * t + k) ^^^ kt (kX K t) t k) := Lib.hid (kX_new K t k ck)
            have XO := xor8 _ _ x1 x2
            rw [← NX.out] at XO
            obtain ⟨v2, w6, hr, ho, hb2, hk2, hv2⟩ := app1g (w := w5.drew) (World.ownsRow.drew own) (kX K (t + 1) (16 + 4 * t + k)) hb.size (by rw [bl_len]; omega) 22
            have HR : Hid ((Builtin.append_ #[22, 22] 22 #[.slice (some ⟨gv, 0, none⟩) (16 + 4 * t + k) cv, .slice (some ⟨w5.heap.size, 0, none⟩) 1 1]).run Try.prog (w5.drew.alloc (.cells #[.int .u8 ((kX K (t + 1) (16 + 4 * t + k) : Nat) : Int)] 5)) = .ok v2 w6) := Lib.hid hr
            have HO : Hid (Own w6 w.heap.size v2 (bl (kX K (t + 1)) (16 + 4 * t + (k + 1)))) := Lib.hid (by rw [← Nat.add_assoc, bl_succ]; exact ho)
            have HT : Hid (Bs w6 gt1 0 4 (kt (kX K t) t)) := Lib.hid (bs_keep bt (hk2 gt1 bt.1 (fun e => ne e.symm)) hb2.size)
            have HN : Hid (v2.ownBlock ≠ some gt1) := Lib.hid (fun e => by
              rcases hv2 with h | h
              · rw [h] at e; exact ne e
              · rw [h] at e
                have := bt.1
                have e2 : w5.heap.size + 1 = gt1 := Option.some.inj e
                omega)
            have HB6 := Lib.hid ((hb.trans (bdrew1 _ _)).trans hb2)
            clear hr ho hb2 hk2 hv2 own bt hb BV ne NX
            generalize kX K (t + 1) (16 + 4 * t + k) = z at *
            generalize kX K (t + 1) (4 * t + k) = x at *
            generalize kt (kX K t) t k = y at *
            have k0 : (0 : Int) ≤ (k : Int) := by omega
            have k1 : (k : Int) ≤ 3 := by omega
            have V1 : IntKind.i64.wrap (16 + 4 * (t : Int) - 16) = 4 * (t : Int) := by rw [wrap_in (by omega) (by omega)]; omega
            have V2 : IntKind.i64.wrap (4 * (t : Int) + (k : Int)) = 4 * (t : Int) + (k : Int) := wrap_in (by omega) (by omega)
            have in1 : 4 * (t : Int) + (k : Int) < 16 + 4 * (t : Int) + (k : Int) := by omega
            have in2 : (k : Int) < 4 := by omega
            have in3 : (0 : Int) ≤ 4 * (t : Int) + (k : Int) := by omega
            go_wp2_with fail
            have tn : (4 * (t : Int) + (k : Int)).toNat = 4 * t + k := by omega
            go_region_law (refine step_append_eq rfl (.tmp 58) (.tmp 71) 22 rfl _ _ v2 w6 rfl rfl HR.out ?_)
            all_goals
              go_wp2_with fail
              go_roundw
              case rel => exact ⟨k + 1, by omega, by go_num, HO.out, HT.out, HN.out, HB6.out⟩
              case measure => simp [intOf]; omega
          · have e1 : decide ((k : Int) < 4) = false := by rw [decide_eq_false_iff_not]; omega
            obtain rfl : k = 4 := by omega
            clear bt hb
            have OW := Lib.hid own
            clear own
            go_wp2_with fail
            go_roundw
            case rel => exact ⟨t + 1, by omega, by rw [show 16 + 4 * (t + 1) = 16 + 4 * t + 4 from by omega]; go_num, by rw [PW.out], by rw [show 16 + 4 * (t + 1) = 16 + 4 * t + 4 from by omega]; exact OW.out, HB5.out⟩
            case measure => simp [intOf]; omega
    · have e0 : decide (16 + 4 * (t : Int) < 176) = false := by rw [decide_eq_false_iff_not]; omega
      obtain rfl : t = 40 := by omega
      have OW := Lib.hid own
      have HB := Lib.hid hb
      clear own hb
      go_wp2_with fail
      go_ret
      exact ⟨⟨_, rfl, OW.out⟩, HB.out⟩
end Go.Proofs.Ytfefkakdhaecpaa.Ae
