/-
  HintBack: A hint that was written is read back, clamped, and not if a byte is turned, missing or too many. The law returns true for every input, and the input reads as it did.
  Conditions: the tables and the errors that the row lists read as the program's text lays them (the card ties them).
-/
import Derived.Test.YtkjolaoajbdomaaDoorRows
import Derived.Test.YtkjolaoajbdomaaDoorCards
import Derived.Test.YtkjolaoajbdomaaDoorTie
import Derived.Test.YtkjolaoajbdomaaDoorHiH
import Derived.SevenTiedAt
namespace Go.Proofs.YtkjolaoajbdomaaDoor.hintBack
open Go.ChangeShapes Go.WideShapes Go.ChangeAt Go.RowKit Go.Joins By Ct Dk Hi
set_option linter.unusedVariables false
set_option linter.unusedSimpArgs false

theorem of8 (a : Nat) (h : a < 256) : (BitVec.ofInt 8 (a : Int)).toNat = a := by
  rw [BitVec.toNat_ofInt]
  simp
  omega
theorem wrap8 (n : Nat) (h : n < 256) : IntKind.u8.wrap (n : Int) = n := by
  simp only [IntKind.wrap, IntKind.bits, IntKind.signed]
  simp
  omega
theorem xor8 (a b : Nat) (ha : a < 256) (hb : b < 256) : bits BinOp.xor IntKind.u8 (a : Int) (b : Int) = ((a ^^^ b : Nat) : Int) := by
  have h : a ^^^ b < 256 := Nat.xor_lt_two_pow (n := 8) ha hb
  show IntKind.u8.wrap (((BitVec.ofInt 8 (a : Int)) ^^^ (BitVec.ofInt 8 (b : Int))).toNat : Int) = _
  rw [BitVec.toNat_xor, of8 a ha, of8 b hb, wrap8 _ h]
theorem xor_ne (a q : Nat) : a ^^^ (q + 1) ≠ a := fun e => by
  have : a ^^^ (q + 1) ^^^ a = 0 := by rw [e, Nat.xor_self]
  rw [Nat.xor_comm (a ^^^ (q + 1)) a, ← Nat.xor_assoc, Nat.xor_self, Nat.zero_xor] at this
  omega
theorem bl_upd {l : List Nat} {j y : Nat} (hj : j < l.length) : bl (upd (fun i => l.getD i 0) j y) l.length = l.set j y := by
  apply List.ext_getElem?
  intro i
  unfold bl
  rw [List.getElem?_map]
  by_cases c : i < l.length
  · rw [List.getElem?_range c, List.getElem?_set]
    by_cases d : j = i
    · subst d
      rw [if_pos rfl, if_pos c]
      simp [upd]
    · rw [if_neg d]
      simp [upd, Ne.symm d, List.getD_eq_getElem?_getD, List.getElem?_eq_getElem c]
  · rw [List.getElem?_eq_none (by simp; omega), List.getElem?_eq_none (by simp; omega)]
    rfl
set_option maxRecDepth 100000 in
set_option maxHeartbeats 16000000 in
theorem walk_no (n z t : Int) (w : World) (G : Gt w) (ho : okT n = false) :
    Calls Tryd.prog 5 #[.int .i64 n, .int .i64 z, .int .u8 t] w fun e w' => e = .returned (.bool true) ∧ Below w.heap.size w w' := by
  have AW := Lib.hid (awake12_c w G)
  have T := fun w' => Lib.hid (Text_no w' ho)
  have hn : Hid (n < -1000000000 ∨ 1000000000 < n) := Lib.hid (okT_not.1 ho)
  clear ho G
  go_enter Tryd.func5, Tryd.ntmps5
  go_wp2_with fail
  refine AW.out.mono ?_
  rintro e w1 ⟨rfl, hb⟩
  have B1 := Lib.hid hb
  have T1 := T w1
  clear hb AW T
  go_wp2_with fail
  refine T1.out.mono ?_
  rintro e w2 ⟨rfl, hw⟩
  subst hw
  by_cases c : n < -1000000000
  · have e1 : decide (n < -1000000000) = true := decide_eq_true c
    go_wp2_with fail
    go_ret
    exact ⟨rfl, B1.out⟩
  · have e1 : decide (n < -1000000000) = false := decide_eq_false c
    have e2 : decide (1000000000 < n) = true := decide_eq_true (hn.out.resolve_left c)
    go_wp2_with fail
    go_ret
    exact ⟨rfl, B1.out⟩
/-- the text, and what is made of it. -/
theorem of_txt {n : Int} (ho : okT n = true) : prs (bt (nb (txt n))) = (clampI n, 0) ∧ prs (bt ((nb (txt n)).take ((txt n).length - 1))) = (0, 4) ∧ prs (bt (nb (txt n) ++ [10])) = (0, 4) ∧
    ∀ (r : Nat) (y : Nat), r < 8 → y < 256 → y ≠ (nb (txt n)).getD ((txt n).length - 9 + r) 0 → prs (bt ((nb (txt n)).set ((txt n).length - 9 + r) y)) = (0, 4) := by
  have hb : ∀ l : List Nat, bt l = l.map UInt8.ofNat := fun l => rfl
  have e0 : txt n = hd n ++ 32 :: (sm (hd n) ++ [10]) := rfl
  have z8 := sm_len (hd n)
  have zt : (txt n).length = (hd n).length + 10 := by rw [e0]; simp [z8]
  refine ⟨by rw [bt_nb]; exact prs_txt ho, ?_, ?_, fun r y hr hy hne => ?_⟩
  · have e : bt ((nb (txt n)).take ((txt n).length - 1)) = hd n ++ 32 :: sm (hd n) := by
      rw [show bt ((nb (txt n)).take ((txt n).length - 1)) = (bt (nb (txt n))).take ((txt n).length - 1) from by unfold bt; rw [List.map_take], bt_nb, zt, e0]
      rw [show hd n ++ 32 :: (sm (hd n) ++ [10]) = (hd n ++ 32 :: sm (hd n)) ++ [10] by simp]
      rw [List.take_append_of_le_length (by simp [z8]), List.take_of_length_le (by simp [z8])]
    rw [e]
    exact prs_front ho (fun q => by have := congrArg List.length q; simp at this)
  · have e : bt (nb (txt n) ++ [10]) = hd n ++ 32 :: (sm (hd n) ++ [10, 10]) := by
      rw [show bt (nb (txt n) ++ [10]) = bt (nb (txt n)) ++ [10] from by unfold bt; rw [List.map_append]; rfl, bt_nb, e0]
      simp
    rw [e]
    exact prs_front ho (fun q => by have := congrArg List.length q; simp at this)
  · have e : bt ((nb (txt n)).set ((txt n).length - 9 + r) y) = hd n ++ 32 :: ((sm (hd n)).set r (UInt8.ofNat y) ++ [10]) := by
      rw [show bt ((nb (txt n)).set ((txt n).length - 9 + r) y) = (bt (nb (txt n))).set ((txt n).length - 9 + r) (UInt8.ofNat y) from by unfold bt; rw [List.map_set], bt_nb, zt, e0]
      rw [List.set_append_right _ _ (by omega), show (hd n).length + 10 - 9 + r - (hd n).length = r + 1 by omega, List.set_cons_succ, List.set_append_left _ _ (by rw [z8]; exact hr)]
    rw [e]
    refine prs_front ho (fun q => hne ?_)
    have q2 := List.append_cancel_right q
    have g : (sm (hd n))[r]? = some (UInt8.ofNat y) := by
      rw [← q2, List.getElem?_set_self (by rw [z8]; exact hr)]
    have g2 : (txt n)[(txt n).length - 9 + r]? = some (UInt8.ofNat y) := by
      rw [zt, e0, List.getElem?_append_right (by omega), show (hd n).length + 10 - 9 + r - (hd n).length = r + 1 by omega, List.getElem?_cons_succ, List.getElem?_append_left (by rw [z8]; exact hr)]
      exact g
    rw [nb, List.getD_eq_getElem?_getD, List.getElem?_map, g2]
    simp
    omega
set_option maxRecDepth 100000 in
set_option maxHeartbeats 16000000 in
theorem walk_yes (n z t : Int) (w : World) (G : Gt w) (hz : (Lit.int .i64 z).wf = true) (ht : (Lit.int .u8 t).wf = true) (ho : okT n = true) :
    Calls Tryd.prog 5 #[.int .i64 n, .int .i64 z, .int .u8 t] w fun e w' => e = .returned (.bool true) ∧ Below w.heap.size w w' := by
  have AW := Lib.hid (awake12_c w G)
  have HG := Lib.hid G
  have hn := okT_iff.1 ho
  have e1 : decide (n < -1000000000) = false := decide_eq_false (by omega)
  have e2 : decide (1000000000 < n) = false := decide_eq_false (by omega)
  have T := fun w' (q : Below w.heap.size w w') => Lib.hid (Text_c w' (HG.out.below q) ho)
  obtain ⟨p1, p2, p3, p4⟩ := of_txt ho
  have P2 := Lib.hid p2
  have P3 := Lib.hid p3
  have P4 := Lib.hid p4
  have zl := txt_len (n := n)
  have zi := itoa_len ho
  have CS := Lib.hid (fun w' => conv_sl w' (txt n) (by omega))
  have CW := Lib.hid (fun w' => conv_wr w' (txt n) (by omega))
  have CV := fun w' => conv_str w' ⟨(txt n).toArray⟩
  have CB := Lib.hid (fun w' => conv_below w' ⟨(txt n).toArray⟩)
  have ZS := ls_size (txt n)
  have NL := nb_len (txt n)
  have CL := fun w' => Lib.hid (clamped_c n w')
  have NB := Lib.hid (nb_byte (txt n))
  obtain ⟨m, hm⟩ : ∃ m, (txt n).length = m := ⟨_, rfl⟩
  rw [hm] at ZS NL zl P2 P4
  have hm1 : 17 ≤ m := by omega
  have hm2 : m ≤ 27 := by omega
  rw [ZS] at CS CV
  rw [hm] at CW
  have HM := Lib.hid zl
  clear p2 p3 p4 G zl hm zi
  generalize nb (txt n) = l at *
  generalize (⟨(txt n).toArray⟩ : ByteArray) = s at *
  clear hn ho
  generalize clampI n = cn at *
  go_enter Tryd.func5, Tryd.ntmps5
  go_wp2_with fail
  refine AW.out.mono ?_
  rintro e w1 ⟨rfl, hb⟩
  have B1 := Lib.hid hb
  have T1 := T w1 hb
  clear hb AW T
  go_wp2_with fail
  refine T1.out.mono ?_
  rintro e w2 ⟨rfl, hb⟩
  have B2 := Lib.hid (bstep B1.out hb)
  have CV2 := CV w2
  have S2 := Lib.hid (CS.out w2)
  have K2 := Lib.hid (Parse_c (HG.out.below (bstep B2.out (CB.out w2))) S2.out)
  rw [p1] at K2
  dsimp only at K2
  clear hb T1 B1
  have C2 := Lib.hid (CB.out w2)
  go_wp2_with fail
  refine K2.out.mono ?_
  rintro e w3 ⟨rfl, hb⟩
  have B3 := Lib.hid (bstep (bstep B2.out C2.out) hb)
  clear hb K2 C2 CV2 S2 p1
  have f1 : decide ((s.size : Int) < 17) = false := decide_eq_false (by omega)
  have f2 : decide (s.size < 17) = false := decide_eq_false (by omega)
  have CL3 := CL w3
  go_wp2_with fail
  refine CL3.out.mono ?_
  rintro e w4 ⟨rfl, hw⟩
  rw [← hw] at B3
  clear hw CL CL3
  have B4 := B3
  clear B3
  have CV4 := CV w4
  have S5 := Lib.hid (CS.out w4)
  have R5 := Lib.hid (CW.out w4)
  have C5 := Lib.hid (CB.out w4)
  have B5 := Lib.hid (bstep B4.out C5.out)
  have GC := grownCap_ge w4 m 0 5
  have GD := grownCap_le_maxLen w4 m 0 5 (by unfold maxLen; omega)
  unfold maxLen at GD
  have L5 : w.heap.size ≤ w4.heap.size := B4.out.size
  clear CV CS CB CW B4 
  generalize grownCap w4 m 0 5 = gc at *
  generalize Lib.bytesWorld w4 5 s = w5 at *
  generalize hg : w4.heap.size = g at *
  clear hg
  have K6 : Hid (∀ z, Below w5.heap.size w5 z → Calls Tryd.prog 9 #[.slice (some ⟨g, 0, none⟩) (m - 1) gc] z fun e w' => e = .returned (.tuple #[.int .i64 0, .int .i64 4]) ∧ Below z.heap.size z w') := Lib.hid (fun z q => by
    have h0 := S5.out.below q
    rw [← NL] at h0
    have h1 := sl_front h0 (a := m - 1) (by omega)
    have := Parse_c (HG.out.below (bstep B5.out q)) h1
    rw [P2.out] at this
    exact this)
  have i0 : (0 : Int) ≤ (m : Int) - 1 := by omega
  have i1 : (m : Int) - 1 ≤ (gc : Int) := by omega
  have i2 : ((m : Int) - 1).toNat = m - 1 := by omega
  have i3 : (gc : Int) ≤ 9223372036854775807 := by omega
  have i4 : (m : Int) ≤ (gc : Int) := by omega
  have i5 : ((m - 1 : Nat) : Int) = (m : Int) - 1 := by omega
  go_wp2_with fail
  refine (K6.out w5 (brefl w5)).mono ?_
  rintro e w6 ⟨rfl, hb⟩
  have B56 := Lib.hid hb
  have B6 := Lib.hid (bstep B5.out hb)
  clear hb K6 CV4 C5
  have S6 := S5.out.below B56.out
  obtain ⟨va, wa, ra, oa, ba, sa, _⟩ := S6.app (balloc (brefl w6) (.cells #[] 5)) (own0 w6 w6.heap.size (Nat.le_refl _)) (by simp) (by simp; omega) 22
  rw [List.nil_append] at oa
  obtain ⟨vb, wb, rb, ob, bb, sb⟩ := By.app1 oa 10 (by have := sa; simp at this; omega) (by omega) 22
  have RA := Lib.hid ra
  have RB := Lib.hid rb
  have B6b := Lib.hid ((balloc (brefl w6) (.cells #[] 5)).trans (ba.trans bb))
  have LB : ∀ x ∈ l ++ [10], x < 256 := fun x hx => (by rcases List.mem_append.1 hx with h | h; exact NB.out x h; simp at h; omega)
  have Bb := Lib.hid (bstep B6.out B6b.out)
  have Bwb := Lib.hid (bstep B56.out B6b.out)
  have K7 := Lib.hid (Parse_c (HG.out.below Bb.out) (own_sl ob LB (by simp; omega)))
  rw [P3.out] at K7
  dsimp only at K7
  clear ra rb oa ba bb sa sb ob LB S6 P3 P2 i0 i1 i2 i5 B6 B6b B56
  go_upto_region 11 with fail
  go_wp2_with (first | (at_builtin; refine wpList_append_eq rfl (.tmp 73) (.tmp 74) 22 rfl _ _ _ wa rfl rfl RA.out ?_) | (at_builtin; refine wpList_append_eq rfl (.tmp 75) (.tmp 76) 22 rfl _ _ _ wb rfl rfl RB.out ?_))
  clear RA RB
  refine K7.out.mono ?_
  rintro e w7 ⟨rfl, hb⟩
  have B7 := Lib.hid (bstep Bb.out hb)
  have Bw7 := Lib.hid (bstep Bwb.out hb)
  clear hb K7 Bb Bwb
  obtain ⟨z1, z2⟩ := bounds_i64 hz
  have IN := fun w' => into_c z 8 w' z1 z2 (by decide) (by decide)
  go_wp2_with fail
  refine (IN w7).mono ?_
  rintro e w8 ⟨⟨r, hr, rfl⟩, hw⟩
  rw [← hw] at B7 Bw7
  clear hw IN
  obtain ⟨j, hj⟩ : ∃ j, m - 9 + r = j := ⟨_, rfl⟩
  have j1 : (m : Int) - 9 + (r : Int) = (j : Int) := by omega
  have j2 : j < m := by omega
  have R8 := R5.out.below Bw7.out
  obtain ⟨c1, c2⟩ := wr_at R8 j2
  have hx : l.getD j 0 < 256 := getD_byte NB.out j
  have hu : 0 ≤ t ∧ t ≤ 255 := by
    simp [Lit.wf, IntKind.min, IntKind.max, IntKind.bits, IntKind.signed] at ht
    omega
  obtain ⟨q, hq⟩ : ∃ q : Nat, t.tmod 16 = (q : Int) := ⟨(t.tmod 16).toNat, by have := Int.tmod_nonneg 16 hu.1; omega⟩
  have q2 : q < 16 := by have := Int.tmod_lt_of_pos t (show (0 : Int) < 16 by decide); omega
  have q3 : IntKind.u8.wrap (q : Int) = (q : Int) := wrap8 q (by omega)
  have q4 : IntKind.u8.wrap ((q : Int) + 1) = ((q + 1 : Nat) : Int) := by
    have := wrap8 (q + 1) (by omega)
    rw [← this]
    rfl
  have q5 := xor8 (l.getD j 0) (q + 1) hx (by omega)
  have q6 : bits BinOp.xor IntKind.u8 ((l.getD j 0 : Nat) : Int) ((q : Int) + 1) = ((l.getD j 0 ^^^ (q + 1) : Nat) : Int) := q5
  have hy : l.getD j 0 ^^^ (q + 1) < 256 := Nat.xor_lt_two_pow (n := 8) hx (by omega)
  have K9 := P4.out r (l.getD j 0 ^^^ (q + 1)) (by omega) hy (by rw [hj]; exact xor_ne _ _)
  rw [hj] at K9
  have R9 := wr_set0 R8 j (l.getD j 0 ^^^ (q + 1)) j2 hy
  have B9 := Lib.hid (B7.out.setCell (p := ⟨g, j, none⟩) (by show w.heap.size ≤ g; exact L5) (.int .u8 ((l.getD j 0 ^^^ (q + 1) : Nat) : Int)))
  have UB : ∀ i, upd (fun i => l.getD i 0) j (l.getD j 0 ^^^ (q + 1)) i < 256 := fun i => by
    unfold upd
    split
    · exact hy
    · exact getD_byte NB.out i
  have S9 := sb_sl (wr_sb R9 UB GC (by omega)) (by omega)
  rw [← NL, bl_upd (by omega), NL] at S9
  have KP := Lib.hid (Parse_c (HG.out.below B9.out) S9)
  rw [K9] at KP
  dsimp only at KP
  generalize (l.getD j 0 ^^^ (q + 1) : Nat) = y at *
  generalize l.getD j 0 = x at *
  clear R8 R9 S9 K9 UB hy hx S5 R5 NB P4
  have n0 : (0 : Int) ≤ (j : Int) := by omega
  have n1 : (j : Int) < (m : Int) := by omega
  have n2 : (m : Int) ≤ (gc : Int) := by omega
  have n3 : (m : Int) - 9 = ((m - 9 : Nat) : Int) := by omega
  go_wp2_with fail
  refine KP.out.mono ?_
  rintro e w9 ⟨rfl, hb⟩
  have BA := Lib.hid (bstep B9.out hb)
  clear hb KP
  go_wp2_with fail
  go_ret
  exact ⟨rfl, BA.out⟩
theorem walk (n z t : Int) (w : World) (G : Gt w) (hn : (Lit.int .i64 n).wf = true) (hz : (Lit.int .i64 z).wf = true) (ht : (Lit.int .u8 t).wf = true) :
    Calls Tryd.prog 5 #[.int .i64 n, .int .i64 z, .int .u8 t] w fun e w' => e = .returned (.bool true) ∧ Below w.heap.size w w' := by
  cases ho : okT n with
  | false => exact walk_no n z t w G ho
  | true => exact walk_yes n z t w G hz ht ho
set_option maxRecDepth 100000 in
theorem lifted (os : Os) (started : os.Started) (H : Type) (enc : TypeId × Value → H) :
    ReturnsInHanded {} Tryd.checked os 5 .any (fun w args => (Rows.hintBackSpec.pre enc Tryd.prog Tryd.f5 [] false w args ∧ laidMetH Tryd.prog Rows.hintBackRow.laid w) ∧ sizedMet enc Tryd.prog Tryd.f5 (OpenSpec.ofChange Rows.hintBackSpec) false w args)
      (Rows.hintBackSpec.post enc Tryd.prog Tryd.f5 false true false false) := by
  refine returnsInHanded_of_change_and (C := Tryd.checked) (X := fun w _ => laidMetH Tryd.prog Rows.hintBackRow.laid w) (fun _ _ _ hh h => h.of_heap hh) Hs.own started (by kernel_rfl) Tryd.func5
    (ChangeSpec.witness_shaped (enc := enc) (C := Tryd.checked) (os := os) (X := fun w _ => laidMetH Tryd.prog Rows.hintBackRow.laid w) false (World.doorLaid Tryd.prog 76 os) #[.int .i64 0, .int .i64 0, .int .u8 0] 8 rfl (World.shaped_of_RefB (by kernel_rfl) (by kernel_rfl)) (by kernel_rfl) (by kernel_rfl) (by kernel_rfl) (Hs.door_met os _)) ?_
  intro W base args ds gs before hval0 hW _ hsz0 hL _
  have hsz : (DataW.weightsEach Tryd.prog (Tryd.f5.params.toList ++ Rows.hintBackSpec.plain.varTypes Tryd.prog) (ds ++ gs)).all (· ≤ reachBytes) = true := hsz0
  have hval : ∀ (j : Nat) t v, Tryd.f5.params[j]? = some t → args[j]? = some v → Value.okWide Tryd.prog W .any base t v := hval0
  have hW' := hW
  obtain ⟨p, q, hA0, hV, rfl, hfz, hnd⟩ := hW
  have hA : DataW.TrodAll enc Tryd.prog W 0 (fun _ => true) true Tryd.f5.params.toList args.toList ds p := hA0
  rw [Tryd.params5] at hA hval hsz
  obtain ⟨v0, vs0, d0, ds0, p0, q0, hargs, rfl, rfl, h0, r0⟩ := trodAll_cons hA
  obtain ⟨v1, vs1, d1, ds1, p1, q1, rfl, rfl, rfl, h1, r1⟩ := trodAll_cons r0
  obtain ⟨v2, vs2, d2, ds2, p2, q2, rfl, rfl, rfl, h2, r2⟩ := trodAll_cons r1
  obtain ⟨rfl, rfl, rfl⟩ := trodAll_nil r2
  obtain rfl : args = #[v0, v1, v2] := by cases args; simp_all
  obtain ⟨rfl, rfl⟩ := trodVars_none hV
  obtain ⟨a0, rfl, rfl, rfl, w0⟩ := open_int Tryd.underlying3 (hval 0 3 v0 rfl rfl) h0
  obtain ⟨a1, rfl, rfl, rfl, w1⟩ := open_int Tryd.underlying3 (hval 1 3 v1 rfl rfl) h1
  obtain ⟨a2, rfl, rfl, rfl, w2⟩ := open_int Tryd.underlying5 (hval 2 5 v2 rfl rfl) h2
  clear hA0 hval0
  simp only [List.append_nil] at hW'
  refine (walk a0 a1 a2 W (gt_of_laid hL) w0 w1 w2).mono fun e W' ⟨he, hg⟩ => ?_
  subst he
  exact ⟨_, rfl, _, _, _, [], _, [], hW', trodAll_cons_mk (shut_bool Tryd.underlying4 _) trodAll_mk0,
    (trodAll_cons_mk (shut_int Tryd.underlying3 w0) (trodAll_cons_mk (shut_int Tryd.underlying3 w1) (trodAll_cons_mk (shut_int Tryd.underlying5 w2) trodAll_mk0))), rfl, hg.frame _, fun h => nomatch h⟩

theorem over : Rows.HintBackSaid :=
  OpenClaim.holds_of_wide 5 Tryd.f5 rfl rfl rfl rfl rfl rfl rfl ⟨rfl, rfl, rfl, rfl, rfl⟩ rfl rfl rfl rfl rfl (by kernel_rfl) Tryd.func5 (by kernel_rfl)
    (of_decide_eq_true (by kernel_rfl)) (by unfold Func.isWrapper; first | (rw [if_pos (by decide +kernel)]; kernel_rfl) | (rw [if_neg (by decide +kernel)]; exact ⟨rfl, rfl⟩))
    (fun os started H enc _ => lifted os started H enc)

theorem proved : Rows.HintBackCardSaid :=
  Claim7.holds_tied_plain_at .later [] [.data, .data, .data, .data, .data, .sentinel, .sentinel] true Rows.hintBackCard.stood.harness true
    over (fun _ h => by cases h) (by kernel_rfl) (fun _ h => by cases h) hintBack_row_tie rfl ⟨rfl, rfl⟩ (by kernel_rfl) rfl
    (fun f fn hf hfn => by
      obtain rfl : f = 5 := Option.some.inj ((show Tryd.prog.funcNamed Rows.hintBackRow.func = some 5 by kernel_rfl).symm.trans hf) |>.symm
      obtain rfl : fn = Tryd.f5 := (Option.some.inj (Tryd.func5.symm.trans hfn)).symm
      exact ⟨by kernel_rfl, fun j t ht => by
        rw [Tryd.params5] at ht
        have hm : t ∈ [3, 3, 5] := by simpa using Array.mem_of_getElem? ht
        have hall : ([3, 3, 5].all fun u => !Tryd.prog.wantsStandIn u) = true := by kernel_rfl
        exact (show Tryd.prog.wantsStandIn t = false by simpa using List.all_eq_true.1 hall t hm)⟩)
    (by kernel_rfl)
end Go.Proofs.YtkjolaoajbdomaaDoor.hintBack
