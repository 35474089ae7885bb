/-
  What the program's three functions of spans are to answer (a premise of the texts that follow, paid by the program's own text); sundiallaw15.awake.
  Conditions: that premise.
-/
import Derived.Test.YtppflfodkhhfhaaHuD
namespace Go.Proofs.Ytppflfodkhhfhaa.Hu
open Go.RowKit Go.ChangeShapes Go.WideShapes Go.ChangeAt Go.Joins Fl
set_option linter.unusedVariables false
set_option linter.unusedSimpArgs false

structure PC : Prop where
  hull : ∀ (w : World) (v : Value) (L : List Sn) (f : Int), Hs w v L → L.length ≤ 8796093022208 → (-9223372036854775808 ≤ f ∧ f ≤ 9223372036854775807) →
    Calls Try.prog 8 #[v, .int .i64 f] w fun e w' => e = huE L f ∧ Below w.heap.size w w'
  held : ∀ (w : World) (v : Value) (L : List Sn) (t : Int), Hs w v L → L.length ≤ 8796093022208 →
    Calls Try.prog 10 #[v, .int .i64 t] w fun e w' => e = heE L t ∧ Below w.heap.size w w'
  liars : ∀ (w : World) (v : Value) (L : List Sn) (s : Sn), Hs w v L → L.length ≤ 8796093022208 →
    Calls Try.prog 12 #[v, NV s] w fun e w' => LiP w L s e w' ∧ Below w.heap.size w w'
def l3 : List Sn := [⟨0, 10⟩, ⟨5, 15⟩, ⟨100, 101⟩]
theorem l3_ok : okL l3 := by decide
theorem l3_hull : huA l3 ((1 : Nat) : Int) = ((5, 10), 0) := huA_some l3_ok (by decide) (hull_ends (by decide) (by decide) (by decide) (by decide) (by decide))
theorem l3_held : heE l3 7 = .returned (.tuple #[.int .i64 2, .int .i64 0]) := by
  unfold heE
  rw [if_pos ⟨l3_ok, by decide⟩, if_pos l3_ok, if_pos (by decide), show cnt l3 7 = 2 by decide]
  rfl
theorem l3_liars : liL ⟨5, 10⟩ l3 l3.length = [2] := by decide
theorem hs_lit (w : World) (a b c d e f : Int) (t : TypeId) : Hs (w.alloc (.cells #[.int .i64 a, .int .i64 b, .int .i64 c, .int .i64 d, .int .i64 e, .int .i64 f] t)) (.slice (some ⟨w.heap.size, 0, none⟩) 3 3) [⟨a, b⟩, ⟨c, d⟩, ⟨e, f⟩] := by
  refine ⟨_, 3, rfl, by simp, by omega, fun _ => ⟨w.heap.size, 0, rfl, by simp, fun j s hj i v hi => ?_⟩⟩
  match j, hj with
  | 0, hj =>
    simp at hj; subst hj
    match i, hi with
    | 0, hi => simp [nvs] at hi; subst hi; simp [go_sem]
    | 1, hi => simp [nvs] at hi; subst hi; simp [go_sem]
    | i + 2, hi => simp [nvs] at hi
  | 1, hj =>
    simp at hj; subst hj
    match i, hi with
    | 0, hi => simp [nvs] at hi; subst hi; simp [go_sem]
    | 1, hi => simp [nvs] at hi; subst hi; simp [go_sem]
    | i + 2, hi => simp [nvs] at hi
  | 2, hj =>
    simp at hj; subst hj
    match i, hi with
    | 0, hi => simp [nvs] at hi; subst hi; simp [go_sem]
    | 1, hi => simp [nvs] at hi; subst hi; simp [go_sem]
    | i + 2, hi => simp [nvs] at hi
  | j + 3, hj => simp at hj
set_option maxRecDepth 100000 in
set_option maxHeartbeats 2000000 in
theorem awake15_c (pc : PC) (w : World) : Calls Try.prog 7 #[] w fun e w' => e = .returned (.bool true) ∧ Below w.heap.size w w' := by
  have HL := Lib.hid (hs_lit w 0 10 5 15 100 101 25)
  have B0 := Lib.hid (balloc (brefl w) (.cells #[.int .i64 0, .int .i64 10, .int .i64 5, .int .i64 15, .int .i64 100, .int .i64 101] 25))
  have PH := Lib.hid (fun w v (h : Hs w v l3) => pc.hull w v l3 ((1 : Nat) : Int) h (by decide) (by decide))
  rw [huE_at l3_hull] at PH
  replace PH : Hid (∀ w v, Hs w v l3 → Calls Try.prog 8 #[v, .int .i64 1] w fun e w' => e = .returned (.tuple #[.agg #[.int .i64 5, .int .i64 10], .int .i64 0]) ∧ Below w.heap.size w w') := PH
  have PE := Lib.hid (fun w v (h : Hs w v l3) => pc.held w v l3 7 h (by decide))
  rw [l3_held] at PE
  have PL : Hid (∀ w v, Hs w v l3 → Calls Try.prog 12 #[v, .agg #[.int .i64 5, .int .i64 10]] w fun e w' => (∃ a cap, e = .returned (.tuple #[.slice a 1 cap, .int .i64 0]) ∧ 1 ≤ cap ∧ cap ≤ 9223372036854775807 ∧ ∃ b o, a = some ⟨b, o, none⟩ ∧ w'.cell? ⟨b, o, none⟩ = some (.int .i64 2)) ∧ Below w.heap.size w w') := Lib.hid fun w v h => by
    refine (pc.liars w v l3 ⟨5, 10⟩ h (by decide)).mono ?_
    rintro e w' ⟨⟨v', he, ho⟩, hb⟩
    have ok2 : okL l3 ∧ okN ⟨5, 10⟩ := ⟨l3_ok, by decide⟩
    rw [if_pos ok2] at he ho
    rw [l3_liars] at ho
    obtain ⟨a, cap, ev, h1, h2, h3⟩ := ho.is
    obtain ⟨b, o, ea, _, hc⟩ := h3 (by simp)
    exact ⟨⟨a, cap, by rw [he, ev]; rfl, h1, h2, b, o, ea, by have := hc 0 2 rfl; rwa [Nat.add_zero] at this⟩, hb⟩
  clear pc
  go_enter Try.func7, Try.ntmps7
  go_wp2_with fail
  refine (PH.out _ _ HL.out).mono ?_
  rintro e w1 ⟨rfl, hb⟩
  have hb2 := balloc hb (.cells #[.int .i64 5, .int .i64 10] 25)
  have B1 := Lib.hid (bstep B0.out hb2)
  have H1 := Lib.hid (HL.out.below hb2)
  have N1 := Lib.hid (new2 w1 5 10 25)
  clear hb hb2 B0 HL PH
  go_wp2_with fail
  refine (PE.out _ _ H1.out).mono ?_
  rintro e w2 ⟨rfl, hb⟩
  have B2 := Lib.hid (bstep B1.out hb)
  have H2 := Lib.hid (H1.out.below hb)
  have N2 := Lib.hid (N1.out.below hb)
  clear hb B1 H1 N1 PE
  obtain ⟨z0, z1⟩ := blk2 N2.out (brefl w2)
  go_wp2_with fail
  refine (PL.out _ _ H2.out).mono ?_
  rintro e w3 ⟨⟨a, cap, rfl, k1, k2, b, o, rfl, kc⟩, hb⟩
  have B3 := Lib.hid (bstep B2.out hb)
  have N3 := Lib.hid (N2.out.below hb)
  have k3 : (1 : Int) ≤ (cap : Int) := by omega
  have k4 : (cap : Int) ≤ 9223372036854775807 := by omega
  clear hb B2 H2 N2 PL z0 z1
  obtain ⟨z0, z1⟩ := blk2 N3.out (brefl w3)
  go_wp2_with fail
  go_ret
  exact ⟨rfl, B3.out⟩
end Go.Proofs.Ytppflfodkhhfhaa.Hu
