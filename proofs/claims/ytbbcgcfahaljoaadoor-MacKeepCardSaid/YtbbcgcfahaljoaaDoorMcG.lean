/-
  The digest by a key, in numbers; the contracts of mac.Make and sundialref06.Make.
  Conditions: the tables of package hash read as their text lays them; a message of no more than 2^47 - 4096 bytes.
-/
import Derived.Test.YtbbcgcfahaljoaaDoorMcB
import Derived.Test.YtbbcgcfahaljoaaDoorMcF
import Derived.Test.YtbbcgcfahaljoaaDoorHg
import Derived.Test.YtbbcgcfahaljoaaDoorHe
import Derived.Test.YtbbcgcfahaljoaaDoorAf
namespace Go.Proofs.YtbbcgcfahaljoaaDoor.Mc
open Go.ChangeShapes Go.WideShapes Go.ChangeAt Go.RowKit Go.Joins Hs
set_option linter.unusedVariables false
set_option linter.unusedSimpArgs false

/-- the digest of n bytes by a key. -/
def mL (k : KD) (g : Nat → Nat) (n : Nat) : List Nat :=
  if isK k = true then (if k.kind = 0 then md5 (cat k g n) (k.l + n) else if k.kind = 1 then (sha256 (cat k g n) (k.l + n)).take 20 else bl (Ae.tg (Ae.kW k.f) g n) 16) else []
def vE (n : Nat) (K : Nat → KD) (x : Int) (g : Nat → Nat) (m : Nat) (D : List Nat) : Int := if fE n K x = 0 then (if mL (fK n K x) g m = D then 0 else 31) else fE n K x

theorem mL_len {k : KD} (h : isK k = true) (g : Nat → Nat) (n : Nat) : (mL k g n).length = 16 ∨ (mL k g n).length = 20 := by
  rw [mL, if_pos h]
  split
  · exact .inl (md5_len _ _)
  · split
    · exact .inr (by rw [List.length_take, sha_len]; rfl)
    · exact .inl (bl_len _ _)

theorem mem_take {l : List Nat} {m : Nat} (h : ∀ x ∈ l, x < 256) : ∀ x ∈ l.take m, x < 256 := fun x hx => h x (List.mem_of_mem_take hx)
theorem mL_byte (k : KD) (g : Nat → Nat) (n : Nat) (hk : ∀ i, k.f i < 256) : ∀ x ∈ mL k g n, x < 256 := by
  rw [mL]
  split
  · split
    · exact ob_byte _ _ _
    · split
      · exact mem_take (ob_byte _ _ _)
      · exact bl_byte fun i hi => Ae.enc_all (Ae.kW_all hk) i
  · simp
theorem cat_byte {k : KD} {g : Nat → Nat} {n : Nat} (hk : ∀ i, k.f i < 256) (hg : ∀ i, g i < 256) : ∀ x ∈ bl k.f k.l ++ bl g n, x < 256 := by
  intro x hx
  rcases List.mem_append.1 hx with h | h
  · exact bl_byte (fun i _ => hk i) x h
  · exact bl_byte (fun i _ => hg i) x h
theorem cat_len (k : KD) (g : Nat → Nat) (n : Nat) : (bl k.f k.l ++ bl g n).length = k.l + n := by rw [List.length_append, bl_len, bl_len]
theorem sb_sl {w : World} {a : Option Addr} {n cap : Nat} {f : Nat → Nat} (h : Sb w (.slice a n cap) n f) : Ae.Sl w a n f := by
  obtain ⟨a', cap', e, h1, h2, h3, h4, h5⟩ := h
  cases e
  exact h4
theorem isK_16 {k : KD} (h : isK k = true) (h0 : ¬ k.kind = 0) (h1 : ¬ k.kind = 1) : k.kind = 2 ∧ k.l = 16 := by
  simp [isK, h0, h1] at h
  exact h.2

set_option maxRecDepth 100000 in
set_option maxHeartbeats 8000000 in
theorem Make_c {w : World} {k : KD} {vm : Value} {n : Nat} {g : Nat → Nat} (G : Gl w) (HK : Sb w k.v k.l k.f) (HM : Sb w vm n g) (hn : n ≤ 140737488351232) :
    Calls Tryd.prog 14 #[k.val, vm] w fun e w' => ∃ v, e = .returned (.tuple #[v, .int .i64 (mE k)]) ∧ Out w' w.heap.size v (mL k g n) ∧ Below w.heap.size w w' := by
  obtain ⟨id, kind, v, l, f⟩ := k
  have KF := HK.form
  obtain ⟨a, cap, hv⟩ := KF
  obtain rfl : v = .slice a l cap := hv
  obtain ⟨b, cb, e, m1, m2, m3, m4, m5⟩ := HM
  have HM : Sb w vm n g := ⟨b, cb, e, m1, m2, m3, m4, m5⟩
  subst e
  have HG := Lib.hid G
  have SK := Lib.hid HK
  have SM := Lib.hid HM
  have M3 := Lib.hid m3
  obtain ⟨R, HR⟩ : ∃ R, Hid (R = mL ⟨id, kind, .slice a l cap, l, f⟩ g n) := ⟨_, Lib.hid rfl⟩
  rw [← HR.out]
  have IK := Lib.hid (fun z => isKey_c ⟨id, kind, .slice a l cap, l, f⟩ z ⟨a, cap, rfl⟩)
  clear G HK HM m1 m2 m3 m4 m5
  have BA := Lib.hid (balloc (brefl w) (.cells #[.int .u32 id, .int .i64 kind, .slice a l cap] 28))
  have CA : Hid ((w.alloc (.cells #[.int .u32 id, .int .i64 kind, .slice a l cap] 28)).cell? ⟨w.heap.size, 0, none⟩ = some (.int .u32 id) ∧ (w.alloc (.cells #[.int .u32 id, .int .i64 kind, .slice a l cap] 28)).cell? ⟨w.heap.size, 1, none⟩ = some (.int .i64 kind) ∧ (w.alloc (.cells #[.int .u32 id, .int .i64 kind, .slice a l cap] 28)).cell? ⟨w.heap.size, 2, none⟩ = some (.slice a l cap) ∧ w.heap.size < (w.alloc (.cells #[.int .u32 id, .int .i64 kind, .slice a l cap] 28)).heap.size) := Lib.hid (by simp)
  show Calls Tryd.prog 14 #[.agg #[.int .u32 id, .int .i64 kind, .slice a l cap], .slice b n cb] w _
  unfold mE
  cases hq : isK ⟨id, kind, .slice a l cap, l, f⟩ with
  | false =>
    rw [hq] at IK
    have RE : Hid (R = []) := Lib.hid (by rw [HR.out, mL, if_neg (by rw [hq]; exact Bool.false_ne_true)])
    rw [if_neg Bool.false_ne_true]
    go_enter Tryd.func14, Tryd.ntmps14
    go_wp2_with fail
    refine (IK.out _).mono ?_
    rintro e w1 ⟨rfl, hb⟩
    have B1 := Lib.hid (bstep BA.out hb)
    clear hb
    go_wp2_with fail
    go_ret2
    exact ⟨_, rfl, .inl ⟨rfl, RE.out⟩, B1.out⟩
  | true =>
    rw [hq] at IK
    have HL := isK_l hq
    have KL : l ≤ 64 := HL.2
    have KM : 1 ≤ l := HL.1
    have H16 := Lib.hid (fun h0 h1 => isK_16 hq h0 h1)
    have FK : Hid (∀ i, f i < 256) := Lib.hid (by obtain ⟨_, _, _, _, _, h, _⟩ := SK.out; exact h)
    clear HL
    rw [if_pos rfl]
    go_enter Tryd.func14, Tryd.ntmps14
    go_wp2_with fail
    refine (IK.out _).mono ?_
    rintro e w1 ⟨rfl, hb⟩
    have B1 := Lib.hid (bstep BA.out hb)
    have K1 : Hid (w1.cell? ⟨w.heap.size, 0, none⟩ = some (.int .u32 id) ∧ w1.cell? ⟨w.heap.size, 1, none⟩ = some (.int .i64 kind) ∧ w1.cell? ⟨w.heap.size, 2, none⟩ = some (.slice a l cap)) := Lib.hid
      ⟨(hb.cell (p := ⟨w.heap.size, 0, none⟩) CA.out.2.2.2).trans CA.out.1, (hb.cell (p := ⟨w.heap.size, 1, none⟩) CA.out.2.2.2).trans CA.out.2.1, (hb.cell (p := ⟨w.heap.size, 2, none⟩) CA.out.2.2.2).trans CA.out.2.2.1⟩
    clear hb CA BA
    obtain ⟨g0, g1, g2⟩ := K1.out
    have CT := Lib.hid (two_at w1 (.slice a l cap) (.slice b n cb) 26)
    have BT := Lib.hid (balloc (brefl w1) (.cells #[.slice a l cap, .slice b n cb] 26))
    have LT : Hid (w1.heap.size < (w1.alloc (.cells #[.slice a l cap, .slice b n cb] 26)).heap.size) := Lib.hid (by simp)
    have CL := Lib.hid (cat_len ⟨id, kind, .slice a l cap, l, f⟩ g n)
    have CB := Lib.hid (cat_byte (k := ⟨id, kind, .slice a l cap, l, f⟩) (n := n) FK.out M3.out)
    by_cases c0 : kind = 0
    · subst c0
      have RE : Hid (R = md5 (cat ⟨id, 0, .slice a l cap, l, f⟩ g n) (l + n)) := Lib.hid (by rw [HR.out, mL, if_pos hq, if_pos rfl])
      go_wp2_with fail
      generalize w1.alloc (.cells #[.slice a l cap, .slice b n cb] 26) = w2 at *
      have B2 := Lib.hid (bstep B1.out BT.out)
      refine (Concat_c (SK.out.below B2.out) (SM.out.below B2.out) w1.heap.size LT.out CT.out.1 CT.out.2 (by omega) (by omega)).mono ?_
      rintro e w3 ⟨v3, rfl, own, hb⟩
      have B3 := Lib.hid (bstep B2.out hb)
      obtain ⟨g3, c3, rfl, j1, j2, j3, j4⟩ := own.bsC (by rw [CL.out]; show 0 < l + n; omega) CB.out
      rw [CL.out] at j2 j3
      rw [CL.out]
      have J2 := Lib.hid j2
      have MC := Lib.hid (MD5_c g3 0 (l + n) c3 (cat ⟨id, 0, .slice a l cap, l, f⟩ g n) w3 (HG.out.below B3.out) (by omega) j3 j4 j2)
      clear own hb j2
      go_wp2_with fail
      refine MC.out.mono ?_
      rintro e w4 ⟨⟨v4, rfl, own⟩, hb⟩
      have O4 : Hid (Out w4 w.heap.size v4 R) := Lib.hid (by rw [RE.out]; exact (own_out own (ob_byte _ _ _)).mono B3.out.size)
      have B4 := Lib.hid (bstep B3.out hb)
      clear own hb MC
      go_wp2_with fail
      go_ret2
      exact ⟨_, rfl, O4.out, B4.out⟩
    have e0 : (kind == 0) = false := by simpa using c0
    by_cases c1 : kind = 1
    · subst c1
      have RE : Hid (R = (sha256 (cat ⟨id, 1, .slice a l cap, l, f⟩ g n) (l + n)).take 20) := Lib.hid (by rw [HR.out, mL, if_pos hq, if_neg c0, if_pos rfl])
      go_wp2_with fail
      generalize w1.alloc (.cells #[.slice a l cap, .slice b n cb] 26) = w2 at *
      have B2 := Lib.hid (bstep B1.out BT.out)
      refine (Concat_c (SK.out.below B2.out) (SM.out.below B2.out) w1.heap.size LT.out CT.out.1 CT.out.2 (by omega) (by omega)).mono ?_
      rintro e w3 ⟨v3, rfl, own, hb⟩
      have B3 := Lib.hid (bstep B2.out hb)
      obtain ⟨g3, c3, rfl, j1, j2, j3, j4⟩ := own.bsC (by rw [CL.out]; show 0 < l + n; omega) CB.out
      rw [CL.out] at j2 j3
      rw [CL.out]
      have J2 := Lib.hid j2
      have MC := Lib.hid (SHA256_c g3 0 (l + n) c3 (cat ⟨id, 1, .slice a l cap, l, f⟩ g n) w3 (HG.out.below B3.out) (by omega) j3 j4 j2)
      clear own hb j2
      go_wp2_with fail
      refine MC.out.mono ?_
      rintro e w4 ⟨⟨v4, rfl, own⟩, hb⟩
      generalize hs : sha256 (cat ⟨id, 1, .slice a l cap, l, f⟩ g n) (l + n) = S at *
      have SL : S.length = 32 := by rw [← hs]; exact sha_len _ _
      have SBy : Hid (∀ x ∈ S, x < 256) := Lib.hid (by rw [← hs]; exact ob_byte _ _ _)
      have B4 := Lib.hid (bstep B3.out hb)
      obtain ⟨g4, c4, rfl, y1, y2, y3, y4⟩ := own.bsC (by rw [SL]; omega) SBy.out
      rw [SL] at y2 y3
      rw [SL]
      have Y2 : Hid (Bs w4 g4 0 20 (fun i => S.getD i 0)) := Lib.hid ⟨y2.1, y2.2.1, fun i hi => y2.2.2 i (by omega)⟩
      have TK : Hid (bl (fun i => S.getD i 0) 20 = R) := Lib.hid (by
        rw [RE.out]
        apply List.ext_getElem?
        intro i
        by_cases h : i < 20
        · simp [bl, h, List.getD_eq_getElem?_getD, List.getElem?_eq_getElem (show i < S.length by omega)]
        · rw [List.getElem?_eq_none (by rw [bl_len]; omega), List.getElem?_eq_none (by rw [List.length_take]; omega)])
      clear own hb MC y2 hs
      have y3' : (32 : Int) ≤ (c4 : Int) := by omega
      have y4' : (c4 : Int) ≤ 9223372036854775807 := by omega
      go_wp2_with fail
      refine (Clone_c (b := g4) (off := 0) (n := 20) (f := fun i => S.getD i 0) (w := w4) (fun _ => Y2.out) (getD_byte SBy.out) (by omega) (by omega) y4).mono ?_
      rintro e w5 ⟨v5, rfl, own, hb⟩
      rw [TK.out] at own
      have O5 : Hid (Out w5 w.heap.size v5 R) := Lib.hid ((own_out own (by rw [RE.out]; exact mem_take SBy.out)).mono B4.out.size)
      have B5 := Lib.hid (bstep B4.out hb)
      clear own hb
      go_wp2_with fail
      go_ret2
      exact ⟨_, rfl, O5.out, B5.out⟩
    have e1 : (kind == 1) = false := by simpa using c1
    obtain ⟨rfl, rfl⟩ : kind = 2 ∧ l = 16 := H16.out c0 c1
    have RE : Hid (R = bl (Ae.tg (Ae.kW f) g n) 16) := Lib.hid (by rw [HR.out, mL, if_pos hq, if_neg c0, if_neg c1])
    obtain ⟨n1, n2, n3⟩ : n ≤ cb ∧ cb ≤ 9223372036854775807 ∧ True := by
      obtain ⟨_, _, e, h1, h2, _⟩ := SM.out
      cases e
      exact ⟨h1, h2, trivial⟩
    have CC := Lib.hid (Ae.CMAC_c a b n cap cb f g w1 (sb_sl (SK.out.below B1.out)) (sb_sl (SM.out.below B1.out)) (fun i _ => FK.out i) M3.out n1 n2)
    go_wp2_with fail
    refine CC.out.mono ?_
    rintro e w2 ⟨gg, rfl, j1, j2, hb⟩
    have O2 : Hid (Out w2 w.heap.size (.slice (some ⟨gg, 0, none⟩) 16 16) R) := Lib.hid (by
      rw [RE.out]
      refine .inr ⟨gg, 0, 16, by rw [bl_len], Nat.le_trans B1.out.size j1, by rw [bl_len]; exact Nat.le_refl _, by omega, bl_byte fun i hi => Ae.enc_all (Ae.kW_all FK.out) i, j2.1, fun i _ => ?_, fun i hi => ?_⟩
      · exact getD_byte (bl_byte fun i hi => Ae.enc_all (Ae.kW_all FK.out) i) i
      · rw [bl_len] at hi
        have e : (bl (Ae.tg (Ae.kW f) g n) 16).getD i 0 = Ae.tg (Ae.kW f) g n i := by
          rw [List.getD_eq_getElem?_getD]; simp [bl, hi]
        show _ = some (Value.int .u8 (((bl (Ae.tg (Ae.kW f) g n) 16).getD i 0 : Nat) : Int)) ∧ _
        rw [e]
        exact j2.2.2 i hi)
    have B2 := Lib.hid (bstep B1.out hb)
    clear hb j2
    go_wp2_with fail
    go_ret2
    exact ⟨_, rfl, O2.out, B2.out⟩
end Go.Proofs.YtbbcgcfahaljoaaDoor.Mc
