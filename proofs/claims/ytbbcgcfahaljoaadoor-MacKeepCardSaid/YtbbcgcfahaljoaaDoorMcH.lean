/-
  The contract of sundialref06.Make.
  Conditions: a message of no more than 2^47 - 4096 bytes.
-/
import Derived.Test.YtbbcgcfahaljoaaDoorMcG
namespace Go.Proofs.YtbbcgcfahaljoaaDoor.Mc
open Go.ChangeShapes Go.WideShapes Go.ChangeAt Go.RowKit Go.Joins Hs
set_option linter.unusedVariables false
set_option linter.unusedSimpArgs false

theorem arg_sb {w : World} {v : Value} {n : Nat} {f : Nat → Nat} (h : By.Arg w v n f) : Sb w v n f := by
  obtain ⟨a, cap, e, h1, h2, h3, h4, h5⟩ := h
  exact ⟨a, cap, e, h1, by omega, h3, h4, h5⟩
theorem arg_le {w : World} {v : Value} {n : Nat} {f : Nat → Nat} (h : By.Arg w v n f) : n ≤ 140737488351232 := by
  obtain ⟨a, cap, e, h1, h2, h3, h4, h5⟩ := h
  omega
/-- v reads as these bytes. -/
def Rd (w : World) (v : Value) (l : List Nat) : Prop := Sb w v l.length (fun i => l.getD i 0)
theorem Rd.below {w w' : World} {v : Value} {l : List Nat} (h : Rd w v l) (k : Below w.heap.size w w') : Rd w' v l := Sb.below h k
theorem Out.rd {w : World} {base : Nat} {v : Value} {l : List Nat} (h : Out w base v l) : Rd w v l := h.sb
theorem Rd.conv {w0 w : World} {v : Value} {l : List Nat} (h : Rd w0 v l) (k : Below w0.heap.size w0 w) : (convert 26 9 v).run Tryd.prog w = .ok (.string (bs8 l)) w := by
  have e := Sb.conv h k
  rwa [bl_getD] at e

set_option maxRecDepth 100000 in
set_option maxHeartbeats 8000000 in
theorem rMake_c {w : World} {k : KD} {vm : Value} {n : Nat} {g : Nat → Nat} (HK : Sb w k.v k.l k.f) (HM : By.Arg w vm n g) :
    Calls Tryd.prog 15 #[k.val, vm] w fun e w' => ∃ v, e = .returned (.tuple #[v, .int .i64 (mE k)]) ∧ Rd w' v (mL k g n) ∧ Below w.heap.size w w' := by
  obtain ⟨id, kind, v, l, f⟩ := k
  have KF := HK.form
  obtain ⟨a, cap, hv⟩ := KF
  obtain rfl : v = .slice a l cap := hv
  have hn := arg_le HM
  have HM2 := arg_sb HM
  obtain ⟨b, cb, e⟩ := HM2.form
  subst e
  have SK := Lib.hid HK
  have AM := Lib.hid HM
  have SM := Lib.hid HM2
  have M3 : Hid (∀ i, g i < 256) := Lib.hid (by obtain ⟨_, _, _, _, _, h, _⟩ := HM2; exact h)
  obtain ⟨R, HR⟩ : ∃ R, Hid (R = mL ⟨id, kind, .slice a l cap, l, f⟩ g n) := ⟨_, Lib.hid rfl⟩
  rw [← HR.out]
  have IK := Lib.hid (fun z => Is_c ⟨id, kind, .slice a l cap, l, f⟩ z ⟨a, cap, rfl⟩)
  clear HK HM HM2
  have BA := Lib.hid (balloc (brefl w) (.cells #[.int .u32 id, .int .i64 kind, .slice a l cap] 28))
  have CA : Hid ((w.alloc (.cells #[.int .u32 id, .int .i64 kind, .slice a l cap] 28)).cell? ⟨w.heap.size, 0, none⟩ = some (.int .u32 id) ∧ (w.alloc (.cells #[.int .u32 id, .int .i64 kind, .slice a l cap] 28)).cell? ⟨w.heap.size, 1, none⟩ = some (.int .i64 kind) ∧ (w.alloc (.cells #[.int .u32 id, .int .i64 kind, .slice a l cap] 28)).cell? ⟨w.heap.size, 2, none⟩ = some (.slice a l cap) ∧ w.heap.size < (w.alloc (.cells #[.int .u32 id, .int .i64 kind, .slice a l cap] 28)).heap.size) := Lib.hid (by simp)
  show Calls Tryd.prog 15 #[.agg #[.int .u32 id, .int .i64 kind, .slice a l cap], .slice b n cb] w _
  unfold mE
  cases hq : isK ⟨id, kind, .slice a l cap, l, f⟩ with
  | false =>
    rw [hq] at IK
    have RE : Hid (R = []) := Lib.hid (by rw [HR.out, mL, if_neg (by rw [hq]; exact Bool.false_ne_true)])
    rw [if_neg Bool.false_ne_true]
    go_enter Tryd.func15, Tryd.ntmps15
    go_wp2_with fail
    refine (IK.out _).mono ?_
    rintro e w1 ⟨rfl, hb⟩
    have B1 := Lib.hid (bstep BA.out hb)
    clear hb
    go_wp2_with fail
    go_ret2
    exact ⟨_, rfl, (show Out w1 0 (.slice none 0 0) R from .inl ⟨rfl, RE.out⟩).rd, B1.out⟩
  | true =>
    rw [hq] at IK
    have HL := isK_l hq
    have KL : l ≤ 64 := HL.2
    have KM : 1 ≤ l := HL.1
    have H16 := Lib.hid (fun h0 h1 => isK_16 hq h0 h1)
    have FK : Hid (∀ i, f i < 256) := Lib.hid (by obtain ⟨_, _, _, _, _, h, _⟩ := SK.out; exact h)
    clear HL
    rw [if_pos rfl]
    go_enter Tryd.func15, Tryd.ntmps15
    go_wp2_with fail
    refine (IK.out _).mono ?_
    rintro e w1 ⟨rfl, hb⟩
    have B1 := Lib.hid (bstep BA.out hb)
    have K1 : Hid (w.heap.size < w1.heap.size ∧ w1.cell? ⟨w.heap.size, 0, none⟩ = some (.int .u32 id) ∧ w1.cell? ⟨w.heap.size, 1, none⟩ = some (.int .i64 kind) ∧ w1.cell? ⟨w.heap.size, 2, none⟩ = some (.slice a l cap)) := Lib.hid
      ⟨Nat.lt_of_lt_of_le CA.out.2.2.2 hb.size, (hb.cell (p := ⟨w.heap.size, 0, none⟩) CA.out.2.2.2).trans CA.out.1, (hb.cell (p := ⟨w.heap.size, 1, none⟩) CA.out.2.2.2).trans CA.out.2.1, (hb.cell (p := ⟨w.heap.size, 2, none⟩) CA.out.2.2.2).trans CA.out.2.2.1⟩
    clear hb CA BA
    obtain ⟨v2, w2, r2, o2, b2, s2, _⟩ := SK.out.app B1.out (Own.nil w1 w1.heap.size) (Nat.le_refl _) (by simp; omega) 26
    rw [List.nil_append] at o2
    have B2 := Lib.hid (bstep B1.out b2)
    obtain ⟨v3, w3, r3, o3, b3, s3, _⟩ := SM.out.app B2.out o2 b2.size (by rw [bl_len]; omega) 26
    have B3 := Lib.hid (bstep B1.out (b2.trans b3))
    have CL := Lib.hid (cat_len ⟨id, kind, .slice a l cap, l, f⟩ g n)
    have CB := Lib.hid (cat_byte (k := ⟨id, kind, .slice a l cap, l, f⟩) (n := n) FK.out M3.out)
    obtain ⟨g3, c3, rfl, j1, j2, j3, j4⟩ := o3.bsC (by rw [CL.out]; show 0 < l + n; omega) CB.out
    rw [CL.out] at j2 j3 r3
    have J2 := Lib.hid j2
    have R2 := Lib.hid r2
    have R3 := Lib.hid r3
    have K3 : Hid (w3.cell? ⟨w.heap.size, 0, none⟩ = some (.int .u32 id) ∧ w3.cell? ⟨w.heap.size, 1, none⟩ = some (.int .i64 kind) ∧ w3.cell? ⟨w.heap.size, 2, none⟩ = some (.slice a l cap)) := Lib.hid
      ⟨((b2.trans b3).cell (p := ⟨w.heap.size, 0, none⟩) K1.out.1).trans K1.out.2.1, ((b2.trans b3).cell (p := ⟨w.heap.size, 1, none⟩) K1.out.1).trans K1.out.2.2.1, ((b2.trans b3).cell (p := ⟨w.heap.size, 2, none⟩) K1.out.1).trans K1.out.2.2.2⟩
    clear r2 r3 o2 o3 b2 b3 s2 s3 j2
    obtain ⟨_, g0, g1, g2⟩ := K1.out
    obtain ⟨h0, h1, h2⟩ := K3.out
    clear K1 K3
    by_cases c0 : kind = 0
    · subst c0
      have RE : Hid (R = md5 (cat ⟨id, 0, .slice a l cap, l, f⟩ g n) (l + n)) := Lib.hid (by rw [HR.out, mL, if_pos hq, if_pos rfl])
      have MC := Lib.hid (rMD5_some g3 0 (l + n) c3 (cat ⟨id, 0, .slice a l cap, l, f⟩ g n) w3 (by omega) J2.out)
      go_wp2_with (first | (at_builtin; refine wpList_append_eq2 rfl _ _ 26 26 rfl _ _ v2 w2 rfl rfl R2.out ?_) | (at_builtin; refine wpList_append_eq2 rfl _ _ 26 26 rfl _ _ _ w3 rfl rfl R3.out ?_))
      refine MC.out.mono ?_
      rintro e w4 ⟨⟨v4, rfl, own⟩, hb⟩
      have O4 : Hid (Rd w4 v4 R) := Lib.hid (by rw [RE.out]; exact (own_out own (ob_byte _ _ _)).rd)
      have B4 := Lib.hid (bstep B3.out hb)
      clear own hb MC
      go_wp2_with fail
      go_ret2
      exact ⟨_, rfl, O4.out, B4.out⟩
    have e0 : (kind == 0) = false := by simpa using c0
    by_cases c1 : kind = 1
    · subst c1
      have RE : Hid (R = (sha256 (cat ⟨id, 1, .slice a l cap, l, f⟩ g n) (l + n)).take 20) := Lib.hid (by rw [HR.out, mL, if_pos hq, if_neg c0, if_pos rfl])
      have J2' : Bs w3 g3 0 (l + n) (cat ⟨id, 1, .slice a l cap, l, f⟩ g n) := J2.out
      have MC := Lib.hid (rSHA_c (some ⟨g3, 0, none⟩) (l + n) c3 (cat ⟨id, 1, .slice a l cap, l, f⟩ g n) w3 (by omega) J2'.2.1 (Lib.hid fun ty => ha_some J2' (by omega) ty))
      clear J2'
      go_wp2_with (first | (at_builtin; refine wpList_append_eq2 rfl _ _ 26 26 rfl _ _ v2 w2 rfl rfl R2.out ?_) | (at_builtin; refine wpList_append_eq2 rfl _ _ 26 26 rfl _ _ _ w3 rfl rfl R3.out ?_))
      refine MC.out.mono ?_
      rintro e w4 ⟨⟨v4, rfl, own⟩, hb⟩
      generalize hs : sha256 (cat ⟨id, 1, .slice a l cap, l, f⟩ g n) (l + n) = S at *
      have SL : S.length = 32 := by rw [← hs]; exact sha_len _ _
      have SBy : Hid (∀ x ∈ S, x < 256) := Lib.hid (by rw [← hs]; exact ob_byte _ _ _)
      have B4 := Lib.hid (bstep B3.out hb)
      obtain ⟨g4, c4, rfl, y1, y2, y3, y4⟩ := own.bsC (by rw [SL]; omega) SBy.out
      rw [SL] at y2 y3
      rw [SL]
      have O4 : Hid (Rd w4 (.slice (some ⟨g4, 0, none⟩) 20 c4) R) := Lib.hid (by
        rw [RE.out]
        have e : (S.take 20).length = 20 := by rw [List.length_take]; omega
        refine ⟨_, c4, by rw [e], by omega, y4, getD_byte (mem_take SBy.out), fun _ => ⟨g4, 0, rfl, y2.1, getD_byte (mem_take SBy.out), fun i hi => ?_⟩, fun h => by cases h⟩
        rw [e] at hi
        rw [y2.2.2 i (by omega)]
        simp [List.getD_eq_getElem?_getD, List.getElem?_take, hi])
      clear own hb MC y2 hs
      have y3' : (32 : Int) ≤ (c4 : Int) := by omega
      have y4' : (c4 : Int) ≤ 9223372036854775807 := by omega
      go_wp2_with fail
      go_ret2
      exact ⟨_, rfl, O4.out, B4.out⟩
    have e1 : (kind == 1) = false := by simpa using c1
    obtain ⟨rfl, rfl⟩ : kind = 2 ∧ l = 16 := H16.out c0 c1
    have RE : Hid (R = bl (Ae.tg (Ae.kW f) g n) 16) := Lib.hid (by rw [HR.out, mL, if_pos hq, if_neg c0, if_neg c1])
    obtain ⟨b0, o0, ha, HB⟩ := sb_sl (SK.out.below B3.out) (by omega)
    subst ha
    have CC := Lib.hid (Ae.rCMAC_c b0 o0 cap b n cb f g w3 HB (AM.out.below B3.out))
    clear HB
    go_wp2_with (first | (at_builtin; refine wpList_append_eq2 rfl _ _ 26 26 rfl _ _ v2 w2 rfl rfl R2.out ?_) | (at_builtin; refine wpList_append_eq2 rfl _ _ 26 26 rfl _ _ _ w3 rfl rfl R3.out ?_))
    refine CC.out.mono ?_
    rintro e w4 ⟨⟨v4, rfl, own⟩, hb⟩
    have O4 : Hid (Rd w4 v4 R) := Lib.hid (by rw [RE.out]; exact (own_out (show Own w4 w3.heap.size v4 (bl (Ae.tg (Ae.kW f) g n) 16) from own) (bl_byte fun i hi => Ae.enc_all (Ae.kW_all FK.out) i)).rd)
    have B4 := Lib.hid (bstep B3.out hb)
    clear own hb
    go_wp2_with fail
    go_ret2
    exact ⟨_, rfl, O4.out, B4.out⟩
end Go.Proofs.YtbbcgcfahaljoaaDoor.Mc
