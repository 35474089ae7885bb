/-
  The contracts of sundialref06.Find, SameKey, mac.Verify, sundialref06.Verify.
  Conditions: the tables of package hash read as their text lays them; a message of no more than 2^47 - 4096 bytes.
-/
import Derived.Test.YtbbcgcfahaljoaaDoorMcE
import Derived.Test.YtbbcgcfahaljoaaDoorMcH
import Derived.Test.YtbbcgcfahaljoaaDoorMcI
namespace Go.Proofs.YtbbcgcfahaljoaaDoor.Mc
open Go.ChangeShapes Go.WideShapes Go.ChangeAt Go.RowKit Go.Joins Hs
set_option linter.unusedVariables false
set_option linter.unusedSimpArgs false

set_option maxRecDepth 100000 in
set_option maxHeartbeats 8000000 in
theorem rFind_c {w : World} {v : Value} {n : Nat} {K : Nat → KD} (R : Ring w v n K) (x : Int) :
    Calls Tryd.prog 10 #[v, .int .u32 x] w fun e w' => e = .returned (.tuple #[(fK n K x).val, .int .i64 (fE n K x)]) ∧ Below w.heap.size w w' := by
  have RG := Lib.hid R
  obtain ⟨a, cap, rfl, h1, h2, h3, h4⟩ := R
  have H3 := Lib.hid h3
  have H4 := Lib.hid h4
  clear h3 h4
  have q1 : (n : Int) ≤ (cap : Int) := by omega
  have q2 : (cap : Int) ≤ 9223372036854775807 := by omega
  have BA := Lib.hid (balloc (brefl w) (.cells #[.int .u32 0, .int .i64 0, .slice none 0 0] 28))
  have CA := Lib.hid (Kc.new w 0 0 (.slice none 0 0) 28)
  obtain ⟨r, HQ⟩ : ∃ r, Hid (r = fK n K x) := ⟨_, Lib.hid rfl⟩
  obtain ⟨z, HE⟩ : ∃ z, Hid (z = fE n K x) := ⟨_, Lib.hid rfl⟩
  rw [← HQ.out, ← HE.out]
  have CH := Lib.hid (rCheck_c (RG.out.below BA.out))
  by_cases c : chk n K = 0
  · rw [c] at CH
    go_enter Tryd.func10, Tryd.ntmps10
    go_wp2_with fail
    generalize w.alloc (.cells #[.int .u32 0, .int .i64 0, .slice none 0 0] 28) = w0 at *
    refine CH.out.mono ?_
    rintro e w1 ⟨rfl, hb⟩
    have B1 := Lib.hid (bstep BA.out hb)
    have C1 := Lib.hid (CA.out.below hb)
    clear hb CA CH
    go_wp2_with fail
    go_loopw [7] (fun i wr => ∃ k : Nat, k ≤ n ∧ i = .int .i64 k ∧ (∀ j, j < k → (K j).id ≠ x) ∧ Kc wr w.heap.size 0 0 (.slice none 0 0) ∧ Below w.heap.size w wr) (fun i _ => n - (intOf i).toNat)
    case atStart => exact ⟨0, Nat.zero_le _, rfl, fun j hj => absurd hj (Nat.not_lt_zero _), C1.out, B1.out⟩
    case round =>
      obtain ⟨k, hk, rfl, hno, hkc, hb⟩ := hrel
      rename World => wr
      have NO := Lib.hid hno
      have BB := Lib.hid hb
      have CC := Lib.hid hkc
      clear hno hb hkc
      by_cases c1 : k < n
      · have e1 : decide ((k : Int) < (n : Int)) = true := by rw [decide_eq_true_iff]; omega
        obtain ⟨b, off, rfl, hbl, hK⟩ := H3.out (by omega)
        obtain ⟨g0, g1, g2⟩ := (hK k c1).below hbl BB.out
        have k1 : (k : Int) < (n : Int) := by omega
        have BL : b < wr.heap.size := Nat.lt_of_lt_of_le hbl BB.out.size
        have FM := (H4.out k c1).2.2.form
        clear hK
        by_cases hx : (K k).id = x
        · have FI := fi_hit hx NO.out n c1
          have HZ : Hid (z = 0) := Lib.hid (by rw [HE.out, fE, if_pos c, FI, if_pos c1])
          have HK : Hid (r = K k) := Lib.hid (by rw [HQ.out, fK, if_pos (by rw [← HE.out]; exact HZ.out), FI])
          generalize K k = y at *
          obtain ⟨id, kind, v, l, f⟩ := y
          obtain ⟨a', cap', hv⟩ := FM
          obtain rfl : v = .slice a' l cap' := hv
          simp only at g0 g1 g2
          obtain rfl : id = x := hx
          obtain ⟨t0, t1, t2, t3, t4, t5, t6⟩ := CC.out
          have BZ := Lib.hid (((BB.out.setCell (p := ⟨w.heap.size, 0, none⟩) (Nat.le_refl _) (.int .u32 id)).setCell (p := ⟨w.heap.size, 1, none⟩) (Nat.le_refl _) (.int .i64 kind)).setCell (p := ⟨w.heap.size, 2, none⟩) (Nat.le_refl _) (.slice a' l cap'))
          clear FI
          go_wp2_with fail
          exact bodyPost_ret (v := .tuple #[.agg #[.int .u32 id, .int .i64 kind, .slice a' l cap'], .int .i64 0]) (by simp [results, Tryd.results10, go_sem, t1, t2, t3]) rfl ⟨by rw [HZ.out, HK.out]; rfl, BZ.out⟩
        · have ex : ((K k).id == x) = false := by rw [beq_eq_false_iff_ne]; exact hx
          have NX : Hid (∀ j, j < k + 1 → (K j).id ≠ x) := Lib.hid (fun j hj => by
            by_cases e : j = k
            · subst e; exact hx
            · exact NO.out j (by omega))
          generalize (K k).id = y at *
          go_wp2_with fail
          go_roundw
          case rel => exact ⟨k + 1, by omega, by go_num, NX.out, CC.out, BB.out⟩
          case measure => simp [intOf]; omega
      · have e1 : decide ((k : Int) < (n : Int)) = false := by rw [decide_eq_false_iff_not]; omega
        obtain rfl : n = k := by omega
        have d : ¬ fi K x n < n := by rw [fi_miss n NO.out]; omega
        have HZ : Hid (z = 30) := Lib.hid (by rw [HE.out, fE, if_pos c, if_neg d])
        have HK : Hid (r = k0) := Lib.hid (by rw [HQ.out, fK, if_neg (by rw [← HE.out, HZ.out]; omega)])
        obtain ⟨t0, t1, t2, t3, t4, t5, t6⟩ := CC.out
        have BZ := Lib.hid (((BB.out.setCell (p := ⟨w.heap.size, 0, none⟩) (Nat.le_refl _) (.int .u32 0)).setCell (p := ⟨w.heap.size, 1, none⟩) (Nat.le_refl _) (.int .i64 0)).setCell (p := ⟨w.heap.size, 2, none⟩) (Nat.le_refl _) (.slice none 0 0))
        go_wp2_with fail
        exact bodyPost_ret (v := .tuple #[.agg #[.int .u32 0, .int .i64 0, .slice none 0 0], .int .i64 30]) (by simp [results, Tryd.results10, go_sem, t1, t2, t3]) rfl ⟨by rw [HZ.out, HK.out]; rfl, BZ.out⟩
  · have HZ : Hid (z = chk n K) := Lib.hid (by rw [HE.out, fE, if_neg c])
    have HK : Hid (r = k0) := Lib.hid (by rw [HQ.out, fK, if_neg (by rw [← HE.out, HZ.out]; exact c)])
    have c' : chk n K = 3 ∨ chk n K = 7 := (chk_cases n K).resolve_left c
    rcases c' with h | h
    · rw [h] at CH HZ
      go_enter Tryd.func10, Tryd.ntmps10
      go_wp2_with fail
      generalize w.alloc (.cells #[.int .u32 0, .int .i64 0, .slice none 0 0] 28) = w0 at *
      refine CH.out.mono ?_
      rintro e w1 ⟨rfl, hb⟩
      have B1 := Lib.hid (bstep BA.out hb)
      have C1 := Lib.hid (CA.out.below hb)
      clear hb CA CH
      obtain ⟨t0, t1, t2, t3, t4, t5, t6⟩ := C1.out
      have BZ := Lib.hid (((B1.out.setCell (p := ⟨w.heap.size, 0, none⟩) (Nat.le_refl _) (.int .u32 0)).setCell (p := ⟨w.heap.size, 1, none⟩) (Nat.le_refl _) (.int .i64 0)).setCell (p := ⟨w.heap.size, 2, none⟩) (Nat.le_refl _) (.slice none 0 0))
      go_wp2_with fail
      exact bodyPost_ret (v := .tuple #[.agg #[.int .u32 0, .int .i64 0, .slice none 0 0], .int .i64 3]) (by simp [results, Tryd.results10, go_sem, t1, t2, t3]) rfl ⟨by rw [HZ.out, HK.out]; rfl, BZ.out⟩
    · rw [h] at CH HZ
      go_enter Tryd.func10, Tryd.ntmps10
      go_wp2_with fail
      generalize w.alloc (.cells #[.int .u32 0, .int .i64 0, .slice none 0 0] 28) = w0 at *
      refine CH.out.mono ?_
      rintro e w1 ⟨rfl, hb⟩
      have B1 := Lib.hid (bstep BA.out hb)
      have C1 := Lib.hid (CA.out.below hb)
      clear hb CA CH
      obtain ⟨t0, t1, t2, t3, t4, t5, t6⟩ := C1.out
      have BZ := Lib.hid (((B1.out.setCell (p := ⟨w.heap.size, 0, none⟩) (Nat.le_refl _) (.int .u32 0)).setCell (p := ⟨w.heap.size, 1, none⟩) (Nat.le_refl _) (.int .i64 0)).setCell (p := ⟨w.heap.size, 2, none⟩) (Nat.le_refl _) (.slice none 0 0))
      go_wp2_with fail
      exact bodyPost_ret (v := .tuple #[.agg #[.int .u32 0, .int .i64 0, .slice none 0 0], .int .i64 7]) (by simp [results, Tryd.results10, go_sem, t1, t2, t3]) rfl ⟨by rw [HZ.out, HK.out]; rfl, BZ.out⟩

theorem own_form {w : World} {base : Nat} {v : Value} {l : List Nat} (h : Own w base v l) : ∃ a cap, v = .slice a l.length cap := by
  rcases h.2 with ⟨h0, h1⟩ | ⟨g, cap, cur, hv, _⟩
  · exact ⟨none, 0, by rw [h0, h1]⟩
  · exact ⟨_, cap, hv⟩
theorem own_sb {w : World} {base : Nat} {v : Value} {n : Nat} {f : Nat → Nat} (h : Own w base v (bl f n)) (hf : ∀ i, f i < 256) : Sb w v n f := by
  obtain ⟨a, cap, e, h1, h2, h3, h4, h5⟩ := (own_out h (bl_byte fun i _ => hf i)).sb
  rw [bl_len] at e h1 h4
  refine ⟨a, cap, e, h1, h2, hf, fun hn => ?_, h5⟩
  obtain ⟨b, off, ea, B⟩ := h4 hn
  refine ⟨b, off, ea, B.1, hf, fun i hi => ?_⟩
  rw [B.2.2 i hi]
  show some (Value.int .u8 (((bl f n).getD i 0 : Nat) : Int)) = _
  rw [List.getD_eq_getElem?_getD]
  simp [bl, hi]
theorem fK_byte {w : World} {v : Value} {n : Nat} {K : Nat → KD} (R : Ring w v n K) (x : Int) : ∀ i, (fK n K x).f i < 256 := by
  obtain ⟨a, cap, _, _, _, _, h4⟩ := R
  unfold fK
  split
  · rename_i h
    obtain ⟨_, _, _, _, _, h3, _⟩ := (h4 _ (fE_zero h).2).2.2
    exact h3
  · intro i; show 0 < 256; omega
theorem fK_sb {w : World} {v : Value} {n : Nat} {K : Nat → KD} (R : Ring w v n K) (x : Int) : Sb w (fK n K x).v (fK n K x).l (fK n K x).f := by
  obtain ⟨a, cap, _, _, _, _, h4⟩ := R
  unfold fK
  split
  · rename_i h
    exact (h4 _ (fE_zero h).2).2.2
  · exact ⟨none, 0, rfl, Nat.le_refl _, by omega, fun _ => by show 0 < 256; omega, fun h => absurd h (Nat.lt_irrefl _), fun _ => rfl⟩
theorem mL_v (id kind : Int) (v v' : Value) (l : Nat) (f g : Nat → Nat) (n : Nat) : mL ⟨id, kind, v, l, f⟩ g n = mL ⟨id, kind, v', l, f⟩ g n := rfl
theorem isK_v (id kind : Int) (v v' : Value) (l : Nat) (f : Nat → Nat) : isK ⟨id, kind, v, l, f⟩ = isK ⟨id, kind, v', l, f⟩ := rfl
end Go.Proofs.YtbbcgcfahaljoaaDoor.Mc
