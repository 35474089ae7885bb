/-
  MacKeep: no call changes what it is handed, and answers share no memory. The law returns true for every input, and the input reads as it did.
  Conditions: the tables of package hash that the row lists read as the program's text lays them (the card ties them).
-/
import Derived.Test.YtbbcgcfahaljoaaDoorRows
import Derived.Test.YtbbcgcfahaljoaaDoorCards
import Derived.Test.YtbbcgcfahaljoaaDoorTie
import Derived.Test.YtbbcgcfahaljoaaDoorMcN
import Derived.Test.YtbbcgcfahaljoaaDoorHsY
import Derived.SevenTiedAt
namespace Go.Proofs.YtbbcgcfahaljoaaDoor.macKeep
open Go.ChangeShapes Go.WideShapes Go.ChangeAt Go.RowKit Go.Joins Hs Mc
set_option linter.unusedVariables false
set_option linter.unusedSimpArgs false

theorem out_form {w : World} {base : Nat} {v : Value} {l : List Nat} (h : Out w base v l) : ∃ a c, v = .slice a l.length c ∧ l.length ≤ c ∧ c ≤ 9223372036854775807 ∧ ∃ g o, 0 < l.length → a = some ⟨g, o, none⟩ ∧ base ≤ g ∧ Wr w g o l.length (fun i => l.getD i 0) := by
  rcases h with ⟨rfl, rfl⟩ | ⟨g, o, cap, rfl, h2, h3, h4, h5, h6⟩
  · exact ⟨none, 0, rfl, Nat.le_refl _, by omega, 0, 0, fun h => absurd h (Nat.lt_irrefl _)⟩
  · exact ⟨_, cap, rfl, h3, h4, g, o, fun _ => ⟨rfl, h2, h6⟩⟩
def key3 (i : Nat) : Nat := [107, 101, 121].getD i 0
theorem key3_sb (w : World) (ty : TypeId) (fr : Nat × Nat) : Sb (w.alloc (.cells #[.int .u8 107, .int .u8 101, .int .u8 121] ty fr)) (.slice (some ⟨w.heap.size, 0, none⟩) 3 3) 3 key3 := lit_sb w [107, 101, 121] ty fr (by decide) (by decide)
theorem wr_set {w : World} {b o n : Nat} {g : Nat → Nat} (h : Wr w b o n g) (k v : Nat) (hk : k < n) (hv : v < 256) : Wr (w.setCell ⟨b, o + k, none⟩ (.int .u8 v)) b o n (Ae.up g k v) :=
  Ae.Ay.set (show Ae.Ay w b o n g from h) k v hk hv
theorem wr_belowB {B : Nat} {w w' : World} {b o n : Nat} {g : Nat → Nat} (h : Wr w b o n g) (hb : b < B) (k : Below B w w') : Wr w' b o n g := Ae.Ay.belowB (show Ae.Ay w b o n g from h) hb k
theorem kc_other {w : World} {b : Nat} {x y : Int} {v : Value} (h : Kc w b x y v) {b' : Nat} (hb : b ≠ b') (i : Nat) (u : Value) : Kc (w.setCell ⟨b', i, none⟩ u) b x y v := by
  obtain ⟨h0, h1, h2, h3, h4, h5, h6⟩ := h
  have k : Below (b + 1) w w := Below.refl _ _
  have ne : ∀ j : Nat, (⟨b, j, none⟩ : Addr) ≠ ⟨b', i, none⟩ := fun j q => hb (congrArg Addr.block q)
  refine ⟨by simpa [World.setCell] using h0, ?_, ?_, ?_, ?_, ?_, ?_⟩
  · rw [World.cell?_setCell_other _ _ _ _ (fun q => hb (by simpa using (congrArg Addr.block q).symm))]; exact h1
  · rw [World.cell?_setCell_other _ _ _ _ (fun q => hb (by simpa using (congrArg Addr.block q).symm))]; exact h2
  · rw [World.cell?_setCell_other _ _ _ _ (fun q => hb (by simpa using (congrArg Addr.block q).symm))]; exact h3
  · rw [World.frozen?_setCell]; exact h4
  · rw [World.frozen?_setCell]; exact h5
  · rw [World.frozen?_setCell]; exact h6
set_option maxRecDepth 100000 in
set_option maxHeartbeats 8000000 in
theorem walk (v : Value) (n : Nat) (K : Nat → KD) (vm : Value) (m : Nat) (g : Nat → Nat) (w : World) (G : Gl w) (R : Ring w v n K) (M : By.Arg w vm m g) :
    Calls Tryd.prog 7 #[v, vm] w fun e w' => e = .returned (.bool true) ∧ Below w.heap.size w w' := by
  have HG := Lib.hid G
  have RG := Lib.hid R
  have SM := Lib.hid (arg_sb M)
  have LE := arg_le M
  obtain ⟨av, cv, ev, h1, h2, h3, h4⟩ := R
  obtain ⟨am, cm, em⟩ := SM.out.form
  have H3 := Lib.hid h3
  have H4 := Lib.hid h4
  clear G M h3 h4
  subst ev em
  have q1 : (n : Int) ≤ (cv : Int) := by omega
  have q2 : (cv : Int) ≤ 9223372036854775807 := by omega
  have HV := Lib.hid (fun z (k : Below w.heap.size w z) (x : Int) (vd : Value) (q : Nat) (h : Nat → Nat) (s : Sb z vd q h) => Verify_c (HG.out.below k) (RG.out.below k) x (SM.out.below k) LE s)
  go_enter Tryd.func7, Tryd.ntmps7
  go_wp2_with fail
  refine (awake6_c _ HG.out).mono ?_
  rintro e w1 ⟨rfl, hb⟩
  have B1 := Lib.hid hb
  clear hb
  go_wp2_with fail
  go_loopw [5] (fun i wr => ∃ k : Nat, k ≤ n ∧ i = .int .i64 k ∧ Below w.heap.size w wr) (fun i _ => n - (intOf i).toNat)
  case atStart => exact ⟨0, Nat.zero_le _, rfl, B1.out⟩
  case round =>
    obtain ⟨k, hk, rfl, hb⟩ := hrel
    rename World => wr
    have BB := Lib.hid hb
    clear hb
    by_cases c : k < n
    · have e0 : decide ((k : Int) < (n : Int)) = true := by rw [decide_eq_true_iff]; omega
      obtain ⟨b, off, rfl, hbl, hK⟩ := H3.out (by omega)
      obtain ⟨g0, g1, g2⟩ := (hK k c).below hbl BB.out
      have KB := Lib.hid (fun z (q : Below w.heap.size w z) => (hK k c).below hbl q)
      have OK := Lib.hid ((H4.out k c).2.2)
      have FB := Lib.hid (fK_byte RG.out (K k).id)
      have FC := Lib.hid (fun z (q : Below w.heap.size w z) => Find_c (RG.out.below q) (K k).id)
      have k1 : (k : Int) < (n : Int) := by omega
      have k0' : (0 : Int) ≤ (k : Int) := by omega
      clear hK
      generalize K k = y at *
      obtain ⟨id, kind, vk, l, f⟩ := y
      obtain ⟨a', c', hv⟩ := OK.out.form
      obtain rfl : vk = .slice a' l c' := hv
      simp only at g0 g1 g2 FC FB
      have MT : Hid (∀ z, Below w.heap.size w z → Calls Tryd.prog 14 #[.agg #[.int .u32 id, .int .i64 kind, .slice a' l c'], .slice am m cm] z fun e w' => ∃ v', e = .returned (.tuple #[v', .int .i64 (mE ⟨id, kind, .slice a' l c', l, f⟩)]) ∧ Out w' z.heap.size v' (mL ⟨id, kind, .slice a' l c', l, f⟩ g m) ∧ Below z.heap.size z w') :=
        Lib.hid (fun z hz => Make_c (k := ⟨id, kind, .slice a' l c', l, f⟩) (HG.out.below hz) (OK.out.below hz) (SM.out.below hz) LE)
      have CV0 := OK.out.conv BB.out
      have CV : Hid (∀ z, Below w.heap.size w z → (convert 26 9 (.slice a' l c')).run Tryd.prog z = .ok (.string (bs8 (bl f l))) z) := Lib.hid (fun z q => OK.out.conv q)
      simp only at CV0
      generalize bs8 (bl f l) = S at *
      generalize mE ⟨id, kind, .slice a' l c', l, f⟩ = er at *
      generalize mL ⟨id, kind, .slice a' l c', l, f⟩ g m = L at *
      generalize fK n K id = r at *
      generalize fE n K id = z at *
      obtain ⟨rid, rkind, rv, rl, rf⟩ := r
      simp only at FC FB
      go_wp2_with fail
      refine (FC.out _ BB.out).mono ?_
      rintro e w2 ⟨v', rfl, own, hb⟩
      have B2 := Lib.hid (bstep BB.out hb)
      obtain ⟨ak, ck, ek, lk1, lk2, gk, ok, hko⟩ := out_form (own_out own (bl_byte fun i _ => FB.out i))
      rw [bl_len] at ek lk1 hko
      subst ek
      have HKO := Lib.hid hko
      have D2 := Lib.hid (balloc (brefl w2) (.cells #[.int .u32 rid, .int .i64 rkind, .slice ak rl ck] 28))
      have N2 := Lib.hid (Kc.new w2 rid rkind (.slice ak rl ck) 28)
      clear own hb hko g0 g1 g2 CV0 FC
      go_upto_region 8 with fail
      generalize w2.alloc (.cells #[.int .u32 rid, .int .i64 rkind, .slice ak rl ck] 28) = w3 at *
      have B3 := Lib.hid (bstep B2.out D2.out)
      obtain ⟨g0, g1, g2⟩ := KB.out _ B3.out
      have hw3 : w2.heap.size < w3.heap.size := N2.out.1
      have BL3 : b < w3.heap.size := Nat.lt_of_lt_of_le hbl B3.out.size
      simp only at g0 g1 g2
      go_wp2_with fail
      refine (MT.out _ B3.out).mono ?_
      rintro e w4 ⟨v4, rfl, o4, hb⟩
      obtain ⟨ad, cd, ed, ld1, ld2, gd, od, hdo⟩ := out_form o4
      subst ed
      have HDO := Lib.hid hdo
      have B34 := Lib.hid hb
      generalize L.length = N at *
      have z1 : (N : Int) ≤ (cd : Int) := by omega
      have z2 : (cd : Int) ≤ 9223372036854775807 := by omega
      have z3 : (rl : Int) ≤ (ck : Int) := by omega
      have z4 : (ck : Int) ≤ 9223372036854775807 := by omega
      clear o4 hb hdo g0 g1 g2 MT
      go_wp2_with fail
      go_loopw [11] (fun i wq => ∃ j : Nat, j ≤ N ∧ i = .int .i64 j ∧ Below w3.heap.size w3 wq ∧ (0 < N → ∃ f', Wr wq gd od N f')) (fun i _ => N - (intOf i).toNat)
      case atStart => exact ⟨0, Nat.zero_le _, rfl, B34.out, fun h => ⟨_, (HDO.out h).2.2⟩⟩
      case round =>
        obtain ⟨j, hj, rfl, hb, hf⟩ := hrel
        rename World => wq
        have BQ := Lib.hid hb
        have HF := Lib.hid hf
        clear hb hf
        by_cases c2 : j < N
        · have e2 : decide ((j : Int) < (N : Int)) = true := by rw [decide_eq_true_iff]; omega
          obtain ⟨f', wf⟩ := HF.out (by omega)
          obtain ⟨rfl, hge, _⟩ := HDO.out (by omega)
          obtain ⟨t1, t2⟩ := wf.2.2 j c2
          have j1 : (j : Int) < (N : Int) := by omega
          have j0 : (0 : Int) ≤ (j : Int) := by omega
          have GL : gd < wq.heap.size := wf.1
          have ST := Lib.hid (wr_set wf j 9 c2 (by omega))
          have SB := Lib.hid (BQ.out.setCell (p := ⟨gd, od + j, none⟩) hge (.int .u8 ((9 : Nat) : Int)))
          clear wf
          go_wp2_with fail
          go_roundw
          case rel => exact ⟨j + 1, by omega, by go_num, SB.out, fun _ => ⟨_, ST.out⟩⟩
          case measure => simp [intOf]; omega
        · have e2 : decide ((j : Int) < (N : Int)) = false := by rw [decide_eq_false_iff_not]; omega
          have BW := Lib.hid (B3.out.trans (BQ.out.mono B3.out.size))
          by_cases hz : z = 0
          · subst hz
            have NQ := Lib.hid (N2.out.below BQ.out)
            have KW : Hid (0 < rl → ∃ f', Wr wq gk ok rl f') := Lib.hid (fun h => ⟨_, wr_belowB (wr_belowB (HKO.out h).2.2 (HKO.out h).2.2.1 D2.out) (Nat.lt_of_lt_of_le (HKO.out h).2.2.1 D2.out.size) BQ.out⟩)
            go_wp2_with fail
            go_loopw [12] (fun i wp => ∃ q : Nat, q ≤ rl ∧ i = .int .i64 q ∧ Below w.heap.size w wp ∧ Kc wp w2.heap.size rid rkind (.slice ak rl ck) ∧ (0 < rl → ∃ f', Wr wp gk ok rl f')) (fun i _ => rl - (intOf i).toNat)
            case atStart => exact ⟨0, Nat.zero_le _, rfl, BW.out, NQ.out, KW.out⟩
            case round =>
              obtain ⟨q, hq, rfl, hb, hkc, hf⟩ := hrel
              rename World => wp
              have BP := Lib.hid hb
              have NP := Lib.hid hkc
              have HF3 := Lib.hid hf
              clear hb hf hkc
              obtain ⟨n0, n1, n2, n3, _, _, _⟩ := NP.out
              by_cases c3 : q < rl
              · have e3 : decide ((q : Int) < (rl : Int)) = true := by rw [decide_eq_true_iff]; omega
                obtain ⟨f', wf⟩ := HF3.out (by omega)
                obtain ⟨rfl, hge, hw2⟩ := HKO.out (by omega)
                obtain ⟨t1, t2⟩ := wf.2.2 q c3
                have xl := wf.2.1 q c3
                have X1 : bits BinOp.xor IntKind.u8 ((f' q : Nat) : Int) 1 = ((f' q ^^^ 1 : Nat) : Int) := xor8 (f' q) 1 xl (by omega)
                have XL : f' q ^^^ 1 < 256 := Nat.xor_lt_two_pow (n := 8) xl (by omega)
                have j1 : (q : Int) < (rl : Int) := by omega
                have j0 : (0 : Int) ≤ (q : Int) := by omega
                have GL : gk < wp.heap.size := wf.1
                have NEQ : w2.heap.size ≠ gk := by have := hw2.1; omega
                have ST := Lib.hid (wr_set wf q (f' q ^^^ 1) c3 XL)
                have SB := Lib.hid (BP.out.setCell (p := ⟨gk, ok + q, none⟩) (Nat.le_trans BB.out.size hge) (.int .u8 ((f' q ^^^ 1 : Nat) : Int)))
                have SN := Lib.hid (kc_other NP.out NEQ (ok + q) (.int .u8 ((f' q ^^^ 1 : Nat) : Int)))
                clear wf hw2
                generalize f' q ^^^ 1 = y1 at *
                generalize f' q = y0 at *
                go_wp2_with fail
                go_region
                go_wp2_with fail
                go_roundw
                case rel => exact ⟨q + 1, by omega, by go_num, SB.out.trans (By.bdrew1 _ _), SN.out.belowB SN.out.1 (By.bdrew1 0 _).size (By.bdrew1 _ _), fun _ => ⟨_, wr_belowB ST.out ST.out.1 (By.bdrew1 _ _)⟩⟩
                case measure => simp [intOf]; omega
              · have e3 : decide ((q : Int) < (rl : Int)) = false := by rw [decide_eq_false_iff_not]; omega
                have BW := Lib.hid BP.out
                have g2' := (KB.out _ BW.out).2.2
                have cv' := CV.out _ BW.out
                have BL' : b < wp.heap.size := Nat.lt_of_lt_of_le hbl BW.out.size
                simp only at g2'
                go_wp2_with fail
                go_roundw
                case rel => exact ⟨k + 1, by omega, by go_num, BW.out⟩
                case measure => simp [intOf]; omega
          · have e3 : (z == 0) = false := by simpa using hz
            have g2' := (KB.out _ BW.out).2.2
            have cv' := CV.out _ BW.out
            have BL' : b < wq.heap.size := Nat.lt_of_lt_of_le hbl BW.out.size
            simp only at g2'
            go_wp2_with fail
            go_roundw
            case rel => exact ⟨k + 1, by omega, by go_num, BW.out⟩
            case measure => simp [intOf]; omega
    · have e0 : decide ((k : Int) < (n : Int)) = false := by rw [decide_eq_false_iff_not]; omega
      obtain rfl : n = k := by omega
      obtain ⟨va, wa, ra, oa, ba, sa, _⟩ := SM.out.app (BB.out.trans ((balloc (brefl wr) (.cells #[] 5)).mono BB.out.size)) (own0 wr wr.heap.size (Nat.le_refl _)) (by simp) (by simp; omega) 26
      rw [List.nil_append] at oa
      obtain ⟨vb, wb, rb, ob, bb, sb⟩ := app1 oa 71 (by have := sa; simp at this; omega) (by rw [bl_len]; omega) 26
      have GB : Hid (∀ i, g i < 256) := Lib.hid (by obtain ⟨_, _, _, _, _, h3, _⟩ := SM.out; exact h3)
      have L3 : (bl g m ++ [71]).length = m + 1 := by rw [List.length_append, bl_len]; rfl
      obtain ⟨gf, cf, evb, f1, f2, f3, f4⟩ := ob.bsC (by rw [L3]; omega) (by
        intro x hx
        rcases List.mem_append.1 hx with h | h
        · exact bl_byte (fun i _ => GB.out i) x h
        · simp at h; omega)
      rw [L3] at evb f3 f2
      subst evb
      have X3 : Hid (Bs wb gf 0 m g) := Lib.hid ⟨f2.1, GB.out, fun i hi => by
        rw [f2.2.2 i (by omega)]
        show some (Value.int .u8 (((bl g m ++ [71]).getD i 0 : Nat) : Int)) = _
        rw [bl_get hi]⟩
      have Y3 : Hid (wb.cell? ⟨gf, m, none⟩ = some (.int .u8 71)) := Lib.hid (by
        have y0 := f2.2.2 m (by omega)
        rw [Nat.zero_add] at y0
        rw [y0]
        show some (Value.int .u8 (((bl g m ++ [71]).getD m 0 : Nat) : Int)) = _
        have e0 := app_get g m 0 [71]
        rw [Nat.add_zero] at e0
        rw [e0]
        rfl)
      have SX : Hid (Sb wb (.slice (some ⟨gf, 0, none⟩) m cf) m g) := Lib.hid ⟨_, cf, rfl, by omega, f4, GB.out, fun _ => ⟨gf, 0, rfl, X3.out⟩, fun h => by cases h⟩
      have Brb := Lib.hid (((balloc (brefl wr) (.cells #[] 5)).trans ba).trans bb)
      have B5 := Lib.hid (BB.out.trans (Brb.out.mono BB.out.size))
      have RA := Lib.hid ra
      have RB := Lib.hid rb
      have hgf : gf < wb.heap.size := f2.1
      have u1 : (m : Int) + 1 ≤ (cf : Int) := by omega
      have u2 : (cf : Int) ≤ 9223372036854775807 := by omega
      have u3 : (0 : Int) ≤ (m : Int) := by omega
      have u4 : (m : Int) < (m : Int) + 1 := by omega
      have u5 : (m : Int) ≤ (cf : Int) := by omega
      clear ra rb oa ob ba bb sa sb f2 X3 L3
      go_upto_region 21 with (first | (at_builtin; refine wpList_append_eq2 rfl (.tmp 84) (.tmp 85) 26 26 rfl _ _ _ wa rfl rfl RA.out ?_) | (at_builtin; refine wpList_append_eq2 rfl (.tmp 86) (.tmp 87) 26 26 rfl _ _ _ wb rfl rfl RB.out ?_))
      clear RA RB
      have kc := fun (w : World) (C : Array Value) (n c : Nat) => Lib.run_convert_bytes_const (P := Tryd.prog) w 26 5 C n c Tryd.underlying26 Tryd.underlying5
      go_wp2_with fail
      have BK := Lib.hid (balloc (brefl wb) (.cells #[.int .u8 107, .int .u8 101, .int .u8 121] 5 (3, 4)))
      have SK := Lib.hid (key3_sb wb 5 (3, 4))
      generalize wb.alloc (.cells #[.int .u8 107, .int .u8 101, .int .u8 121] 5 (3, 4)) = wc at *
      have B6 := Lib.hid (bstep B5.out BK.out)
      refine (Make_c (k := ⟨3, 1, .slice (some ⟨wb.heap.size, 0, none⟩) 3 3, 3, key3⟩) (HG.out.below B6.out) SK.out (SX.out.below BK.out) LE).mono ?_
      rintro e wd ⟨vd, rfl, _, hb⟩
      have B7 := Lib.hid (bstep B6.out hb)
      have Bbd := Lib.hid (bstep BK.out hb)
      clear hb SK kc
      generalize mE ⟨3, 1, .slice (some ⟨wb.heap.size, 0, none⟩) 3 3, 3, key3⟩ = er
      go_wp2_with fail
      refine (Verify_c (HG.out.below B7.out) (RG.out.below B7.out) 3 (SX.out.below Bbd.out) LE (SX.out.below Bbd.out)).mono ?_
      rintro e we ⟨rfl, hb⟩
      have B8 := Lib.hid (bstep B7.out hb)
      have Bbe := Lib.hid (bstep Bbd.out hb)
      have c1 := SX.out.conv Bbe.out
      have c2 := SM.out.conv B8.out
      have y3 := (Bbe.out.cell (p := ⟨gf, m, none⟩) hgf).trans Y3.out
      clear hb
      generalize bs8 (bl g m) = S at *
      generalize vE n K 3 g m (bl g m) = ez
      go_wp2_with fail
      go_ret
      exact ⟨by simp, B8.out⟩
set_option maxRecDepth 100000 in
set_option maxHeartbeats 2000000 in
theorem lifted (os : Os) (started : os.Started) (H : Type) (enc : TypeId × Value → H) :
    ReturnsInHanded {} Tryd.checked os 7 .any (fun w args => (Rows.macKeepSpec.pre enc Tryd.prog Tryd.f7 [] false w args ∧ laidMetH Tryd.prog Rows.macMakesRow.laid w) ∧ sizedMet enc Tryd.prog Tryd.f7 (OpenSpec.ofChange Rows.macKeepSpec) false w args)
      (Rows.macKeepSpec.post enc Tryd.prog Tryd.f7 false true false false) := by
  refine returnsInHanded_of_change_and (C := Tryd.checked) (X := fun w _ => laidMetH Tryd.prog Rows.macMakesRow.laid w) (fun _ _ _ hh h => h.of_heap hh) own started (by kernel_rfl) Tryd.func7
    (ChangeSpec.witness_shaped (enc := enc) (C := Tryd.checked) (os := os) (X := fun w _ => laidMetH Tryd.prog Rows.macMakesRow.laid w) false (World.doorLaid Tryd.prog 28 os) #[.slice none 0 0, .slice none 0 0] 8 rfl (World.shaped_of_RefB (by kernel_rfl) (by kernel_rfl)) (by kernel_rfl) (by kernel_rfl) (by kernel_rfl) (door_met os _)) ?_
  intro W base args ds gs before hval0 hW _ hsz0 hL _
  have hsz : (DataW.weightsEach Tryd.prog (Tryd.f7.params.toList ++ Rows.macKeepSpec.plain.varTypes Tryd.prog) (ds ++ gs)).all (· ≤ reachBytes) = true := hsz0
  have hval : ∀ (j : Nat) t v, Tryd.f7.params[j]? = some t → args[j]? = some v → Value.okWide Tryd.prog W .any base t v := hval0
  have hW' := hW
  obtain ⟨p, q, hA0, hV, rfl, hfz, hnd⟩ := hW
  have hA : DataW.TrodAll enc Tryd.prog W 0 (fun _ => true) true Tryd.f7.params.toList args.toList ds p := hA0
  rw [Tryd.params7] at hA hval hsz
  obtain ⟨v0, vs0, d0, ds0, p0, q0, hargs, rfl, rfl, h0, r0⟩ := trodAll_cons hA
  obtain ⟨v1, vs1, d1, ds1, p1, q1, rfl, rfl, rfl, h1, r1⟩ := trodAll_cons r0
  obtain ⟨rfl, rfl, rfl⟩ := trodAll_nil r1
  obtain rfl : args = #[v0, v1] := by cases args; simp_all
  obtain ⟨rfl, rfl⟩ := trodVars_none hV
  have h0k := h0
  have hlt0 : ∀ x ∈ p0, x.block < W.heap.size := fun x hx => by have := hW'.lt x (by simp [hx]); simpa using this
  have h1k := h1
  have hlt1 : ∀ x ∈ p1, x.block < W.heap.size := fun x hx => by have := hW'.lt x (by simp [hx]); simpa using this
  have hb1 : ∀ es sp, d1 = .slice es sp → (es.length + sp.length) * Tryd.prog.bytesOf 5 ≤ reachBytes := by
    intro es sp he
    exact sized_slice hsz (j := 1) (t := 26) (e := 5) rfl (by rw [he]; rfl) Tryd.underlying26
  obtain ⟨n0, K0, g0⟩ := open_ring (hval 0 22 v0 rfl rfl) h0
  obtain ⟨n1, f1, g1⟩ := By.open_bytes (hval 1 26 v1 rfl rfl) h1 hb1
  clear hA0 hval0
  simp only [List.append_nil] at hW'
  refine (walk v0 n0 K0 v1 n1 f1 W (gl_of_laid hL) g0 g1).mono fun e W' ⟨he, hg⟩ => ?_
  subst he
  exact ⟨_, rfl, _, _, _, [], _, [], hW', trodAll_cons_mk (shut_bool Tryd.underlying4 _) trodAll_mk0,
    (trodAll_cons_mk (Below.trod laidOut (by kernel_rfl) (of_decide_eq_true (by kernel_rfl)) h0k hg hlt0) (trodAll_cons_mk (Below.trod laidOut (by kernel_rfl) (of_decide_eq_true (by kernel_rfl)) h1k hg hlt1) trodAll_mk0)), rfl, hg.frame _, fun h => nomatch h⟩

theorem over : Rows.MacKeepSaid :=
  OpenClaim.holds_of_wide 7 Tryd.f7 rfl rfl rfl rfl rfl rfl rfl ⟨rfl, rfl, rfl, rfl, rfl⟩ rfl rfl rfl rfl rfl (by kernel_rfl) Tryd.func7 (by kernel_rfl)
    (of_decide_eq_true (by kernel_rfl)) (by unfold Func.isWrapper; first | (rw [if_pos (by decide +kernel)]; kernel_rfl) | (rw [if_neg (by decide +kernel)]; exact ⟨rfl, rfl⟩))
    (fun os started H enc _ => lifted os started H enc)

theorem proved : Rows.MacKeepCardSaid :=
  Claim7.holds_tied_plain_at .later [] [.data, .data, .data] true Rows.macKeepCard.stood.harness false
    over (fun _ h => by cases h) (by kernel_rfl) (fun _ h => by cases h) macKeep_row_tie rfl ⟨rfl, rfl⟩ (by kernel_rfl) rfl
    (fun f fn hf hfn => by
      obtain rfl : f = 7 := Option.some.inj ((show Tryd.prog.funcNamed Rows.macKeepRow.func = some 7 by kernel_rfl).symm.trans hf) |>.symm
      obtain rfl : fn = Tryd.f7 := (Option.some.inj (Tryd.func7.symm.trans hfn)).symm
      exact ⟨by kernel_rfl, fun j t ht => by
        rw [Tryd.params7] at ht
        have hm : t ∈ [22, 26] := by simpa using Array.mem_of_getElem? ht
        have hall : ([22, 26].all fun u => !Tryd.prog.wantsStandIn u) = true := by kernel_rfl
        exact (show Tryd.prog.wantsStandIn t = false by simpa using List.all_eq_true.1 hall t hm)⟩)
    (by kernel_rfl)
end Go.Proofs.YtbbcgcfahaljoaaDoor.macKeep
