/-
  The contract of sundialref06.Verify.
  Conditions: the tables of package hash read as their text lays them; a message of no more than 2^47 - 4096 bytes.
-/
import Derived.Test.YtbbcgcfahaljoaaDoorMcJ
namespace Go.Proofs.YtbbcgcfahaljoaaDoor.Mc
open Go.ChangeShapes Go.WideShapes Go.ChangeAt Go.RowKit Go.Joins Hs
set_option linter.unusedVariables false
set_option linter.unusedSimpArgs false

theorem toList_ne {t s : ByteArray} (k : ¬ t = s) : (t.toList == s.toList) = false := by
  rw [beq_eq_false_iff_ne]
  intro e
  rw [Lib.toList_data, Lib.toList_data] at e
  exact k (ByteArray.ext (Array.toList_inj.1 e))
set_option maxRecDepth 100000 in
set_option maxHeartbeats 600000 in
theorem rVerify_c {w : World} {v vm vd : Value} {n m q : Nat} {K : Nat → KD} {g h : Nat → Nat} (R : Ring w v n K) (x : Int) (HM : By.Arg w vm m g) (HD : Sb w vd q h) :
    Calls Tryd.prog 18 #[v, .int .u32 x, vm, vd] w fun e w' => e = .returned (.int .i64 (vE n K x g m (bl h q))) ∧ Below w.heap.size w w' := by
  have RG := Lib.hid R
  have AM := Lib.hid HM
  have SD := Lib.hid HD
  have HB : Hid (∀ i, h i < 256) := Lib.hid (by obtain ⟨_, _, _, _, _, h3, _⟩ := HD; exact h3)
  obtain ⟨av, cv, ev⟩ : ∃ a c, v = .slice a n c := by obtain ⟨a, c, e, _⟩ := R; exact ⟨a, c, e⟩
  obtain ⟨am, cm, em⟩ := (arg_sb HM).form
  obtain ⟨ad, cd, ed⟩ := HD.form
  have FB := Lib.hid (fK_byte R x)
  have FS := Lib.hid (fK_sb R x)
  clear R HM HD
  subst ev em ed
  obtain ⟨z, HE⟩ : ∃ z, Hid (z = vE n K x g m (bl h q)) := ⟨_, Lib.hid rfl⟩
  rw [← HE.out]
  have FC := Lib.hid (rFind_c RG.out x)
  have MT : Hid (∀ (id kind : Int) (v : Value) (l : Nat) (f : Nat → Nat) (z : World), Below w.heap.size w z → Sb z v l f → Calls Tryd.prog 15 #[.agg #[.int .u32 id, .int .i64 kind, v], .slice am m cm] z fun e w' => ∃ v', e = .returned (.tuple #[v', .int .i64 (mE ⟨id, kind, v, l, f⟩)]) ∧ Rd w' v' (mL ⟨id, kind, v, l, f⟩ g m) ∧ Below z.heap.size z w') :=
    Lib.hid (fun id kind v l f z hz hs => rMake_c (k := ⟨id, kind, v, l, f⟩) hs (AM.out.below hz))
  by_cases c : fE n K x = 0
  · rw [c] at FC
    have HK := Lib.hid (fK_isK c)
    have HV : Hid (z = if mL (fK n K x) g m = bl h q then 0 else 31) := Lib.hid (by rw [HE.out, vE, if_pos c])
    generalize fK n K x = r at *
    obtain ⟨id, kind, vk, l, f⟩ := r
    obtain ⟨a', c', e'⟩ := FS.out.form
    obtain rfl : vk = .slice a' l c' := e'
    have LB := Lib.hid (mL_byte ⟨id, kind, .slice a' l c', l, f⟩ g m FB.out)
    simp only [KD.val] at FC FB
    go_enter Tryd.func18, Tryd.ntmps18
    go_wp2_with fail
    refine FC.out.mono ?_
    rintro e w1 ⟨rfl, hb⟩
    have B1 := Lib.hid hb
    have BN := Lib.hid (balloc (brefl w1) (.cells #[.int .u32 id, .int .i64 kind, .slice a' l c'] 28))
    have CN := Lib.hid (Kc.new w1 id kind (.slice a' l c') 28)
    clear hb FC
    go_wp2_with fail
    generalize w1.alloc (.cells #[.int .u32 id, .int .i64 kind, .slice a' l c'] 28) = w2 at *
    have B2 := Lib.hid (bstep B1.out BN.out)
    refine (MT.out id kind (.slice a' l c') l f w2 B2.out (FS.out.below B2.out)).mono ?_
    rintro e w3 ⟨v3, rfl, o3, hb⟩
    have B3 := Lib.hid (bstep B2.out hb)
    have CV := Lib.hid (o3.conv (brefl _))
    have CD := Lib.hid (SD.out.conv B3.out)
    clear o3 hb
    generalize mL ⟨id, kind, .slice a' l c', l, f⟩ g m = L at *
    have c1 := CV.out
    have c2 := CD.out
    by_cases d : L = bl h q
    · have HV' : Hid (z = 0) := Lib.hid (by rw [HV.out, if_pos d])
      rw [← d] at c2
      clear CV CD HV
      generalize bs8 L = S at *
      go_wp2_with fail
      go_ret
      exact ⟨by rw [HV'.out]; rfl, B3.out⟩
    · have HV' : Hid (z = 31) := Lib.hid (by rw [HV.out, if_neg d])
      have NE : ¬ bs8 L = bs8 (bl h q) := fun e => d (bs8_inj LB.out (bl_byte fun i _ => HB.out i) e)
      have ne' : ((bs8 L).toList == (bs8 (bl h q)).toList) = false := toList_ne NE
      clear CV CD HV
      generalize bs8 L = S at *
      generalize bs8 (bl h q) = S2 at *
      go_wp2_with fail
      go_ret
      exact ⟨by rw [HV'.out]; rfl, B3.out⟩
  · have HV : Hid (z = fE n K x) := Lib.hid (by rw [HE.out, vE, if_neg c])
    have KK : Hid (fK n K x = k0) := Lib.hid (by rw [fK, if_neg c])
    rw [KK.out] at FC
    have d : fE n K x = 3 ∨ fE n K x = 7 ∨ fE n K x = 30 := (fE_cases n K x).resolve_left c
    simp only [KD.val, k0] at FC
    rcases d with d | d | d
    · rw [d] at FC HV
      go_enter Tryd.func18, Tryd.ntmps18
      go_wp2_with fail
      refine FC.out.mono ?_
      rintro e w1 ⟨rfl, hb⟩
      have B2 := Lib.hid (bstep hb (balloc (brefl w1) (.cells #[.int .u32 0, .int .i64 0, .slice none 0 0] 28)))
      clear hb FC
      go_wp2_with fail
      go_ret
      exact ⟨by rw [HV.out]; rfl, B2.out⟩
    · rw [d] at FC HV
      go_enter Tryd.func18, Tryd.ntmps18
      go_wp2_with fail
      refine FC.out.mono ?_
      rintro e w1 ⟨rfl, hb⟩
      have B2 := Lib.hid (bstep hb (balloc (brefl w1) (.cells #[.int .u32 0, .int .i64 0, .slice none 0 0] 28)))
      clear hb FC
      go_wp2_with fail
      go_ret
      exact ⟨by rw [HV.out]; rfl, B2.out⟩
    · rw [d] at FC HV
      go_enter Tryd.func18, Tryd.ntmps18
      go_wp2_with fail
      refine FC.out.mono ?_
      rintro e w1 ⟨rfl, hb⟩
      have B2 := Lib.hid (bstep hb (balloc (brefl w1) (.cells #[.int .u32 0, .int .i64 0, .slice none 0 0] 28)))
      clear hb FC
      go_wp2_with fail
      go_ret
      exact ⟨by rw [HV.out]; rfl, B2.out⟩
end Go.Proofs.YtbbcgcfahaljoaaDoor.Mc
