/-
  The contract of mac.Verify.
  Conditions: the tables of package hash read as their text lays them; a message of no more than 2^47 - 4096 bytes.
-/
import Derived.Test.YtbbcgcfahaljoaaDoorMcJ
namespace Go.Proofs.YtbbcgcfahaljoaaDoor.Mc
open Go.ChangeShapes Go.WideShapes Go.ChangeAt Go.RowKit Go.Joins Hs
set_option linter.unusedVariables false
set_option linter.unusedSimpArgs false

theorem vE_bad {n : Nat} {K : Nat → KD} {x : Int} {g : Nat → Nat} {m : Nat} {D : List Nat} (h : ¬ fE n K x = 0) : vE n K x g m D = fE n K x := by rw [vE, if_neg h]
set_option maxRecDepth 100000 in
set_option maxHeartbeats 600000 in
theorem Verify_c {w : World} {v vm vd : Value} {n m q : Nat} {K : Nat → KD} {g h : Nat → Nat} (G : Gl w) (R : Ring w v n K) (x : Int) (HM : Sb w vm m g) (hm : m ≤ 140737488351232) (HD : Sb w vd q h) :
    Calls Tryd.prog 17 #[v, .int .u32 x, vm, vd] w fun e w' => e = .returned (.int .i64 (vE n K x g m (bl h q))) ∧ Below w.heap.size w w' := by
  have HG := Lib.hid G
  have RG := Lib.hid R
  have SM := Lib.hid HM
  have SD := Lib.hid HD
  obtain ⟨av, cv, ev⟩ : ∃ a c, v = .slice a n c := by obtain ⟨a, c, e, _⟩ := R; exact ⟨a, c, e⟩
  obtain ⟨am, cm, em⟩ := HM.form
  obtain ⟨ad, cd, ed⟩ := HD.form
  have FB := Lib.hid (fK_byte R x)
  clear G R HM HD
  subst ev em ed
  obtain ⟨z, HE⟩ : ∃ z, Hid (z = vE n K x g m (bl h q)) := ⟨_, Lib.hid rfl⟩
  rw [← HE.out]
  have FC := Lib.hid (Find_c RG.out x)
  have MT : Hid (∀ (id kind : Int) (v : Value) (l : Nat) (f : Nat → Nat) (z : World), Below w.heap.size w z → Sb z v l f → Calls Tryd.prog 14 #[.agg #[.int .u32 id, .int .i64 kind, v], .slice am m cm] z fun e w' => ∃ v', e = .returned (.tuple #[v', .int .i64 (mE ⟨id, kind, v, l, f⟩)]) ∧ Out w' z.heap.size v' (mL ⟨id, kind, v, l, f⟩ g m) ∧ Below z.heap.size z w') :=
    Lib.hid (fun id kind v l f z hz hs => Make_c (k := ⟨id, kind, v, l, f⟩) (HG.out.below hz) hs (SM.out.below hz) hm)
  by_cases c : fE n K x = 0
  · rw [c] at FC
    have HK := Lib.hid (fK_isK c)
    have HV : Hid (z = if mL (fK n K x) g m = bl h q then 0 else 31) := Lib.hid (by rw [HE.out, vE, if_pos c])
    generalize fK n K x = r at *
    obtain ⟨id, kind, vk, l, f⟩ := r
    have GL := isK_l HK.out
    simp only at FC FB GL
    go_enter Tryd.func17, Tryd.ntmps17
    go_wp2_with fail
    refine FC.out.mono ?_
    rintro e w1 ⟨v', rfl, own, hb⟩
    have B1 := Lib.hid hb
    obtain ⟨a', c', e'⟩ := own_form own
    rw [bl_len] at e'
    subst e'
    have O1 := Lib.hid (own_sb own FB.out)
    have BN := Lib.hid (balloc (brefl w1) (.cells #[.int .u32 id, .int .i64 kind, .slice a' l c'] 28))
    have CN := Lib.hid (Kc.new w1 id kind (.slice a' l c') 28)
    clear own hb FC
    go_wp2_with fail
    generalize w1.alloc (.cells #[.int .u32 id, .int .i64 kind, .slice a' l c'] 28) = w2 at *
    have B2 := Lib.hid (bstep B1.out BN.out)
    refine (MT.out id kind (.slice a' l c') l f w2 B2.out (O1.out.below BN.out)).mono ?_
    rintro e w3 ⟨v3, rfl, o3, hb⟩
    have E0 : mE ⟨id, kind, .slice a' l c', l, f⟩ = 0 := by rw [mE, if_pos (show isK ⟨id, kind, .slice a' l c', l, f⟩ = true from HK.out)]
    rw [E0]
    have B3 := Lib.hid (bstep B2.out hb)
    have O3 : Hid (Out w3 w2.heap.size v3 (mL ⟨id, kind, vk, l, f⟩ g m)) := Lib.hid o3
    clear o3 hb E0
    generalize mL ⟨id, kind, vk, l, f⟩ g m = L at *
    have SC := Lib.hid (Same_c O3.out.sb (SD.out.below B3.out))
    rw [out_bl O3.out] at SC
    obtain ⟨a3, c3, e3⟩ := O3.out.sb.form
    subst e3
    by_cases d : L = bl h q
    · rw [decide_eq_true d] at SC
      rw [if_pos d] at HV
      clear d
      go_wp2_with fail
      refine SC.out.mono ?_
      rintro e w4 ⟨rfl, hb⟩
      have B4 := Lib.hid (bstep B3.out hb)
      clear hb SC
      go_wp2_with fail
      go_ret
      exact ⟨by rw [HV.out]; rfl, B4.out⟩
    · rw [decide_eq_false d] at SC
      rw [if_neg d] at HV
      clear d
      go_wp2_with fail
      refine SC.out.mono ?_
      rintro e w4 ⟨rfl, hb⟩
      have B4 := Lib.hid (bstep B3.out hb)
      clear hb SC
      go_wp2_with fail
      go_ret
      exact ⟨by rw [HV.out]; rfl, B4.out⟩
  · have HV : Hid (z = fE n K x) := Lib.hid (by rw [HE.out, vE_bad c])
    have KK : Hid (fK n K x = k0) := Lib.hid (by rw [fK, if_neg c])
    rw [KK.out] at FC
    have d : fE n K x = 3 ∨ fE n K x = 7 ∨ fE n K x = 30 := (fE_cases n K x).resolve_left c
    rcases d with d | d | d
    · rw [d] at FC HV
      go_enter Tryd.func17, Tryd.ntmps17
      go_wp2_with fail
      refine FC.out.mono ?_
      rintro e w1 ⟨v', rfl, own, hb⟩
      have B1 := Lib.hid hb
      obtain ⟨a', c', e'⟩ := own_form own
      rw [bl_len] at e'
      subst e'
      have BN := Lib.hid (balloc (brefl w1) (.cells #[.int .u32 k0.id, .int .i64 k0.kind, .slice a' k0.l c'] 28))
      clear own hb FC
      have B2 := Lib.hid (bstep B1.out BN.out)
      go_wp2_with fail
      go_ret
      exact ⟨by rw [HV.out]; rfl, B2.out⟩
    · rw [d] at FC HV
      go_enter Tryd.func17, Tryd.ntmps17
      go_wp2_with fail
      refine FC.out.mono ?_
      rintro e w1 ⟨v', rfl, own, hb⟩
      have B1 := Lib.hid hb
      obtain ⟨a', c', e'⟩ := own_form own
      rw [bl_len] at e'
      subst e'
      have BN := Lib.hid (balloc (brefl w1) (.cells #[.int .u32 k0.id, .int .i64 k0.kind, .slice a' k0.l c'] 28))
      clear own hb FC
      have B2 := Lib.hid (bstep B1.out BN.out)
      go_wp2_with fail
      go_ret
      exact ⟨by rw [HV.out]; rfl, B2.out⟩
    · rw [d] at FC HV
      go_enter Tryd.func17, Tryd.ntmps17
      go_wp2_with fail
      refine FC.out.mono ?_
      rintro e w1 ⟨v', rfl, own, hb⟩
      have B1 := Lib.hid hb
      obtain ⟨a', c', e'⟩ := own_form own
      rw [bl_len] at e'
      subst e'
      have BN := Lib.hid (balloc (brefl w1) (.cells #[.int .u32 k0.id, .int .i64 k0.kind, .slice a' k0.l c'] 28))
      clear own hb FC
      have B2 := Lib.hid (bstep B1.out BN.out)
      go_wp2_with fail
      go_ret
      exact ⟨by rw [HV.out]; rfl, B2.out⟩
end Go.Proofs.YtbbcgcfahaljoaaDoor.Mc
