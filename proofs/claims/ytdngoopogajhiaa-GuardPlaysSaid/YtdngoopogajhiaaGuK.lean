/-
  The program's guard: how it is made, the flags of an address, the list of its hosts.
  Conditions: none but those of each theorem.
-/
import Derived.Test.YtdngoopogajhiaaGuJ
namespace Go.Proofs.Ytdngoopogajhiaa.Gu
open Go.RowKit Go.ChangeShapes Go.WideShapes Go.ChangeAt Go.Joins Fl
set_option linter.unusedVariables false
set_option linter.unusedSimpArgs false

def zs64 : List Value := [.int .u32 0, .int .i64 0, .int .i64 0, .int .i64 0, .int .u32 0, .int .i64 0, .int .i64 0, .int .i64 0, .int .u32 0, .int .i64 0, .int .i64 0, .int .i64 0, .int .u32 0, .int .i64 0, .int .i64 0, .int .i64 0, .int .u32 0, .int .i64 0, .int .i64 0, .int .i64 0, .int .u32 0, .int .i64 0, .int .i64 0, .int .i64 0, .int .u32 0, .int .i64 0, .int .i64 0, .int .i64 0, .int .u32 0, .int .i64 0, .int .i64 0, .int .i64 0, .int .u32 0, .int .i64 0, .int .i64 0, .int .i64 0, .int .u32 0, .int .i64 0, .int .i64 0, .int .i64 0, .int .u32 0, .int .i64 0, .int .i64 0, .int .i64 0, .int .u32 0, .int .i64 0, .int .i64 0, .int .i64 0, .int .u32 0, .int .i64 0, .int .i64 0, .int .i64 0, .int .u32 0, .int .i64 0, .int .i64 0, .int .i64 0, .int .u32 0, .int .i64 0, .int .i64 0, .int .i64 0, .int .u32 0, .int .i64 0, .int .i64 0, .int .i64 0]
def vs66 (u : Value) : List Value := [u, .int .u32 0, .int .i64 0, .int .i64 0, .int .i64 0, .int .u32 0, .int .i64 0, .int .i64 0, .int .i64 0, .int .u32 0, .int .i64 0, .int .i64 0, .int .i64 0, .int .u32 0, .int .i64 0, .int .i64 0, .int .i64 0, .int .u32 0, .int .i64 0, .int .i64 0, .int .i64 0, .int .u32 0, .int .i64 0, .int .i64 0, .int .i64 0, .int .u32 0, .int .i64 0, .int .i64 0, .int .i64 0, .int .u32 0, .int .i64 0, .int .i64 0, .int .i64 0, .int .u32 0, .int .i64 0, .int .i64 0, .int .i64 0, .int .u32 0, .int .i64 0, .int .i64 0, .int .i64 0, .int .u32 0, .int .i64 0, .int .i64 0, .int .i64 0, .int .u32 0, .int .i64 0, .int .i64 0, .int .i64 0, .int .u32 0, .int .i64 0, .int .i64 0, .int .i64 0, .int .u32 0, .int .i64 0, .int .i64 0, .int .i64 0, .int .u32 0, .int .i64 0, .int .i64 0, .int .i64 0, .int .u32 0, .int .i64 0, .int .i64 0, .int .i64 0, .int .i64 0]
theorem zero_gd (w : World) : (zeroValue 67).run Try.prog w = .ok (.agg #[.slice none 0 0, .int .u32 0, .int .i64 0, .int .i64 0, .int .i64 0, .int .u32 0, .int .i64 0, .int .i64 0, .int .i64 0, .int .u32 0, .int .i64 0, .int .i64 0, .int .i64 0, .int .u32 0, .int .i64 0, .int .i64 0, .int .i64 0, .int .u32 0, .int .i64 0, .int .i64 0, .int .i64 0, .int .u32 0, .int .i64 0, .int .i64 0, .int .i64 0, .int .u32 0, .int .i64 0, .int .i64 0, .int .i64 0, .int .u32 0, .int .i64 0, .int .i64 0, .int .i64 0, .int .u32 0, .int .i64 0, .int .i64 0, .int .i64 0, .int .u32 0, .int .i64 0, .int .i64 0, .int .i64 0, .int .u32 0, .int .i64 0, .int .i64 0, .int .i64 0, .int .u32 0, .int .i64 0, .int .i64 0, .int .i64 0, .int .u32 0, .int .i64 0, .int .i64 0, .int .i64 0, .int .u32 0, .int .i64 0, .int .i64 0, .int .i64 0, .int .u32 0, .int .i64 0, .int .i64 0, .int .i64 0, .int .u32 0, .int .i64 0, .int .i64 0, .int .i64 0, .int .i64 0]) w := by kernel_rfl
theorem pm_new {w : World} {b base : Nat} {u : Value} {R : List Ru} (h : Blk w b (vs66 u)) (hu : Gn.Own 36 rvs 3 w base u R) (hb : ∀ g, u.ownBlock = some g → g ≠ b) : PM w b (fun i => i = b ∨ u.ownBlock = some i) R [] := by
  have u1 : u.oneCell' = true := by
    obtain ⟨a, c, e⟩ := hu.form
    rw [e]
    rfl
  refine ⟨vs66 u, u, rfl, fun v hv => ?_, h, rfl, rfl, by simp, fun j s hj => by simp at hj, hu.ss okr, .inl rfl, fun g hg => ⟨.inr hg, hb g hg⟩, fun i hi => ?_⟩
  · rcases List.mem_cons.1 hv with e | hv
    · rw [e]; exact u1
    · have D : ∀ v ∈ (vs66 (.bool true)).tail, v.oneCell' = true := by decide
      exact D v hv
  · rcases hi with rfl | hi
    · exact h.1
    · exact (hu.block i hi).2
set_option maxRecDepth 100000 in
set_option maxHeartbeats 4000000 in
theorem New_ok {w : World} {v : Value} {R : List Ru} (h : Gn.Ss rvs 3 w v R) (hu : ∀ r ∈ R, uR r) (hk : okS R) : Calls Try.prog 9 #[v] w fun e w' => (∃ a X, e = .returned (.tuple #[.pointer (some a), .int .i64 0]) ∧ Kz w' a X (newG R) ∧ ∀ i, X i → w.heap.size ≤ i) ∧ Below w.heap.size w w' := by
  have AR := Lib.hid (allRight_c h hu)
  rw [decide_eq_true hk.1] at AR
  have CL := Lib.hid (fun W (q : Below w.heap.size w W) => CloneR_c (h.below q) (by have := hk.2; omega))
  obtain ⟨ra, rc, rfl, c1, c2, _⟩ := h
  obtain ⟨m, hm⟩ : ∃ m, R.length = m := ⟨_, rfl⟩
  have hk2 := hk.2
  rw [hm] at CL AR c1 hk2 ⊢
  have e0 : decide (64 < (m : Int)) = false := decide_eq_false (by omega)
  have e0' : decide (64 < m) = false := decide_eq_false (by omega)
  have m2 : (m : Int) ≤ (rc : Int) := by omega
  have m3 : (rc : Int) ≤ 9223372036854775807 := by omega
  clear hm hu hk
  go_enter Try.func9, Try.ntmps9
  go_wp2_with fail
  refine AR.out.mono ?_
  rintro e w1 ⟨rfl, hb⟩
  have B1 := Lib.hid hb
  clear hb AR
  go_wp2_with fail
  refine (CL.out _ B1.out).mono ?_
  rintro e w2 ⟨⟨u, rfl, ho⟩, hb⟩
  have B2 := Lib.hid (bstep B1.out hb)
  have O2 := Lib.hid ho
  have S2 : Hid (∀ g, u.ownBlock = some g → w.heap.size ≤ g ∧ g < w2.heap.size) := Lib.hid fun g hg => ⟨Nat.le_trans B1.out.size (ho.block g hg).1, (ho.block g hg).2⟩
  clear hb ho CL
  obtain ⟨ua, uc, ev⟩ := O2.out.form
  subst ev
  have N3 := Lib.hid (Blk.new w2 (vs66 (.slice ua R.length uc)) 67)
  have B3 := Lib.hid (balloc B2.out (.cells (vs66 (.slice ua R.length uc)).toArray 67))
  have O3 := Lib.hid (O2.out.below (balloc (brefl w2) (.cells (vs66 (.slice ua R.length uc)).toArray 67)))
  have K3 := Lib.hid (pm_new N3.out O3.out (fun g hg e => by have := (S2.out g hg).2; omega))
  clear N3 O3 O2
  unfold vs66 at B3 K3
  have ZV := zero_gd w2
  go_wp2_with fail
  go_ret2
  refine ⟨⟨_, _, rfl, ⟨w2.heap.size, rfl, K3.out, fun _ => rfl, fun h T e => by cases e⟩, fun i hi => ?_⟩, B3.out⟩
  rcases hi with rfl | hi
  · exact B2.out.size
  · exact (S2.out i hi).1
set_option maxRecDepth 100000 in
set_option maxHeartbeats 4000000 in
theorem New_no {w : World} {v : Value} {R : List Ru} (h : Gn.Ss rvs 3 w v R) (hu : ∀ r ∈ R, uR r) (hk : ¬ okS R) : Calls Try.prog 9 #[v] w fun e w' => e = .returned (.tuple #[.pointer none, .int .i64 3]) ∧ Below w.heap.size w w' := by
  have AR := Lib.hid (allRight_c h hu)
  obtain ⟨ra, rc, rfl, c1, c2, _⟩ := h
  obtain ⟨m, hm⟩ : ∃ m, R.length = m := ⟨_, rfl⟩
  have hk2 : ¬ (m ≤ 64) ∨ ¬ (∀ r ∈ R, okR r) := by
    by_cases c : m ≤ 64
    · exact .inr fun q => hk ⟨q, by rw [hm]; exact c⟩
    · exact .inl c
  rw [hm] at AR c1 ⊢
  have m2 : (m : Int) ≤ (rc : Int) := by omega
  have m3 : (rc : Int) ≤ 9223372036854775807 := by omega
  clear hm hu hk
  by_cases c0 : 64 < m
  · have e0 : decide (64 < (m : Int)) = true := decide_eq_true (by omega)
    have e0' : decide (64 < m) = true := decide_eq_true c0
    clear AR hk2
    go_enter Try.func9, Try.ntmps9
    go_wp2_with fail
    go_ret2
    exact ⟨rfl, brefl w⟩
  · have e0 : decide (64 < (m : Int)) = false := decide_eq_false (by omega)
    have e0' : decide (64 < m) = false := decide_eq_false c0
    have hk3 : ¬ (∀ r ∈ R, okR r) := hk2.elim (fun z => absurd (by omega) z) id
    rw [decide_eq_false hk3] at AR
    clear hk2 hk3
    go_enter Try.func9, Try.ntmps9
    go_wp2_with fail
    refine AR.out.mono ?_
    rintro e w1 ⟨rfl, hb⟩
    have B1 := Lib.hid hb
    clear hb AR
    go_wp2_with fail
    go_ret2
    exact ⟨rfl, B1.out⟩
set_option maxRecDepth 100000 in
set_option maxHeartbeats 8000000 in
theorem flagsOf_c {w : World} {v : Value} {R : List Ru} (h : Gn.Ss rvs 3 w v R) (hu : ∀ r ∈ R, uR r) (a : Int) : Calls Try.prog 22 #[v, .int .u32 a] w fun e w' => e = .returned (.int .i64 (flg a R)) ∧ Below w.heap.size w w' := by
  have HS := Lib.hid h
  have HU := Lib.hid hu
  obtain ⟨ra, rc, rfl, c1, c2, _⟩ := h
  obtain ⟨m, hm⟩ : ∃ m, R.length = m := ⟨_, rfl⟩
  have HM := Lib.hid hm
  have FG : Hid (flg a R = (bR (bst a (R.take m))).flags) := Lib.hid (by rw [List.take_of_length_le (Nat.le_of_eq hm), bR_flags]; rfl)
  rw [hm] at HS c1 ⊢
  have m0 : (0 : Int) ≤ (m : Int) := by omega
  have m2 : (m : Int) ≤ (rc : Int) := by omega
  have m3 : (rc : Int) ≤ 9223372036854775807 := by omega
  have N0 := Lib.hid (Blk.new' w #[.int .u32 0, .int .u32 0, .int .i64 0] 36)
  have B0 := Lib.hid (balloc (brefl w) (.cells #[.int .u32 0, .int .u32 0, .int .i64 0] 36))
  clear hm hu
  go_enter Try.func22, Try.ntmps22
  go_wp2_with fail
  go_loopw [7, 10] (fun _ iv wr => ∃ k : Nat, k ≤ m ∧ iv = .int .i64 (k : Nat) ∧ Blk wr w.heap.size (rvs (bR (bst a (R.take k)))) ∧ Below w.heap.size w wr) (fun _ iv _ => m - (intOf iv).toNat)
  case atStart => exact ⟨0, by omega, rfl, N0.out, B0.out⟩
  case round =>
    obtain ⟨k, hk, rfl, hB, hb⟩ := hrel
    rename World => wr
    have BR := Lib.hid hb
    have BL := Lib.hid hB
    clear hb hB N0 B0
    obtain ⟨q, hq⟩ : ∃ q, bR (bst a (R.take k)) = q := ⟨_, rfl⟩
    have HQ := Lib.hid hq
    rw [hq] at BL
    clear hq
    obtain ⟨qa, qm, qf⟩ := q
    obtain ⟨p0, q0⟩ := BL.out.2 0 _ rfl
    obtain ⟨p1, q1⟩ := BL.out.2 1 _ rfl
    obtain ⟨p2, q2⟩ := BL.out.2 2 _ rfl
    by_cases c : k < m
    · have e1 : decide ((k : Int) < (m : Int)) = true := decide_eq_true (by omega)
      have e2 : decide (k < m) = true := decide_eq_true c
      have k1 : (k : Int) < (m : Int) := by omega
      have k0 : (0 : Int) ≤ (k : Int) := by omega
      have wk : IntKind.i64.wrap ((k : Int) + 1) = (k : Int) + 1 := wrap_in (by omega) (by omega)
      obtain ⟨x, hx⟩ : ∃ x, R[k]? = some x := ⟨_, List.getElem?_eq_getElem (by rw [HM.out]; exact c)⟩
      have UX := HU.out x (List.mem_of_getElem? hx)
      have SN := Lib.hid (bst_snoc (a := a) hx)
      obtain ⟨bb, off, rfl, _, hR⟩ := (HS.out.below BR.out).at hx
      have y0 := hR 0 _ rfl
      have y1 := hR 1 _ rfl
      have y2 := hR 2 _ rfl
      rw [Nat.add_zero] at y0
      have xm0 := UX.2.1.1
      clear hR hx UX
      obtain ⟨xa, xm, xf⟩ := x
      simp only at y0 y1 y2 xm0
      have NA := Lib.hid (Blk.new' wr #[.int .u32 xa, .int .u32 xm, .int .i64 xf] 36)
      have BA := Lib.hid (balloc BR.out (.cells #[.int .u32 xa, .int .u32 xm, .int .i64 xf] 36))
      have BLA := Lib.hid (BL.out.below (balloc (brefl wr) (.cells #[.int .u32 xa, .int .u32 xm, .int .i64 xf] 36)))
      go_upto_region 5 with fail
      clear p0 p1 p2 q0 q1 q2 y0 y1 y2 BL
      generalize wr.alloc (.cells #[.int .u32 xa, .int .u32 xm, .int .i64 xf] 36) = wa at *
      have x0 := (NA.out.2 0 _ rfl).1
      have x1 := (NA.out.2 1 _ rfl).1
      have x2 := (NA.out.2 2 _ rfl).1
      obtain ⟨p0, q0⟩ := BLA.out.2 0 _ rfl
      obtain ⟨p1, q1⟩ := BLA.out.2 1 _ rfl
      obtain ⟨p2, q2⟩ := BLA.out.2 2 _ rfl
      by_cases f : an a xm = xa
      · have f1 : (bits BinOp.and IntKind.u32 a xm == xa) = true := by simpa [an] using f
        by_cases g : qm ≤ xm
        · have g1 := decide_eq_true g
          have BN : Hid (Blk (((wa.setCell ⟨w.heap.size, 0, none⟩ (.int .u32 xa)).setCell ⟨w.heap.size, 1, none⟩ (.int .u32 xm)).setCell ⟨w.heap.size, 2, none⟩ (.int .i64 xf)) w.heap.size (rvs (bR (bst a (R.take (k + 1)))))) := Lib.hid (by
            rw [SN.out, bR_yes (a := a) (r := ⟨xa, xm, xf⟩) f (by rw [HQ.out]; exact g)]
            have z := blk_set (blk_set (blk_set BLA.out 0 (.int .u32 xa)) 1 (.int .u32 xm)) 2 (.int .i64 xf)
            exact z)
          have BB := Lib.hid (bset (bset (bset BA.out 0 (.int .u32 xa)) 1 (.int .u32 xm)) 2 (.int .i64 xf))
          clear f
          go_wp2_with fail
          exact ⟨⟨k + 1, by omega, by go_num, BN.out, BB.out⟩, by simp [intOf]; omega⟩
        · have g1 := decide_eq_false g
          have BN : Hid (Blk wa w.heap.size (rvs (bR (bst a (R.take (k + 1)))))) := Lib.hid (by
            rw [SN.out, bR_no (a := a) (r := ⟨xa, xm, xf⟩) xm0 (fun z => g (by have := z.2; rwa [HQ.out] at this)), HQ.out]
            exact BLA.out)
          clear f
          go_wp2_with fail
          exact ⟨⟨k + 1, by omega, by go_num, BN.out, BA.out⟩, by simp [intOf]; omega⟩
      · have f1 : (bits BinOp.and IntKind.u32 a xm == xa) = false := by simpa [an] using f
        have BN : Hid (Blk wa w.heap.size (rvs (bR (bst a (R.take (k + 1)))))) := Lib.hid (by
          rw [SN.out, bR_no (a := a) (r := ⟨xa, xm, xf⟩) xm0 (fun z => f z.1), HQ.out]
          exact BLA.out)
        clear f
        go_wp2_with fail
        exact ⟨⟨k + 1, by omega, by go_num, BN.out, BA.out⟩, by simp [intOf]; omega⟩
    · have e1 : decide ((k : Int) < (m : Int)) = false := decide_eq_false (by omega)
      have e2 : decide (k < m) = false := decide_eq_false c
      obtain rfl : k = m := by omega
      have FE : Hid (flg a R = qf) := Lib.hid (by rw [FG.out, HQ.out])
      go_wp2_with fail
      go_ret
      exact ⟨by rw [FE.out]; rfl, BR.out⟩
theorem PM.count {w : World} {b : Nat} {Z : Nat → Prop} {R : List Ru} {H : List Ho} (h : PM w b Z R H) : w.cell? ⟨b, 65, none⟩ = some (.int .i64 (H.length : Nat)) ∧ w.frozen? ⟨b, 65, none⟩ = false ∧ H.length ≤ 16 := by
  obtain ⟨V, rv, _, _, h3, _, h5, h6, _⟩ := h
  exact ⟨(h3.2 65 _ h5).1, (h3.2 65 _ h5).2, h6⟩
theorem PM.ss {w : World} {b : Nat} {Z : Nat → Prop} {R : List Ru} {H : List Ho} (h : PM w b Z R H) : Gn.Ss hvs 4 w (.slice (some ⟨b, 1, none⟩) H.length 16) H := by
  obtain ⟨V, rv, _, _, h3, _, _, h6, h7, _⟩ := h
  refine ⟨_, 16, rfl, h6, by omega, fun _ => ⟨b, 1, rfl, h3.1, fun j s hj i v hi => ?_⟩⟩
  rw [Nat.add_assoc]
  exact (h3.2 _ _ (h7 j s hj i v hi)).1
theorem PM.rules {w : World} {b : Nat} {Z : Nat → Prop} {R : List Ru} {H : List Ho} (h : PM w b Z R H) : ∃ a c, w.cell? ⟨b, 0, none⟩ = some (.slice a R.length c) ∧ Gn.Ss rvs 3 w (.slice a R.length c) R := by
  obtain ⟨V, rv, _, _, h3, h4, _, _, _, h8, _⟩ := h
  have k := (h3.2 0 _ h4).1
  have h8' := h8
  obtain ⟨a, c, e, _⟩ := h8
  rw [e] at k h8'
  exact ⟨a, c, k, h8'⟩
theorem hosts_c {w : World} {b : Nat} {Z : Nat → Prop} {R : List Ru} {H : List Ho} (h : PM w b Z R H) : Calls Try.prog 26 #[.pointer (some ⟨b, 0, none⟩)] w fun e w' => e = .returned (.slice (some ⟨b, 1, none⟩) H.length 16) ∧ Below w.heap.size w w' := by
  obtain ⟨k1, _, k2⟩ := h.count
  obtain ⟨n, hn⟩ : ∃ n, H.length = n := ⟨_, rfl⟩
  rw [hn] at k1 k2 ⊢
  have n0 : (0 : Int) ≤ (n : Int) := by omega
  have n1 : (n : Int) ≤ 16 := by omega
  clear h hn
  go_enter Try.func26, Try.ntmps26
  go_wp2_with fail
  go_quiet (fail)
  go_wp2_with fail
  go_ret
  exact ⟨rfl, bdrew (brefl w) _⟩
theorem List_c {w : World} {b : Nat} {Z : Nat → Prop} {R : List Ru} {H : List Ho} (h : PM w b Z R H) : Calls Try.prog 14 #[.pointer (some ⟨b, 0, none⟩)] w fun e w' => (∃ v, e = .returned v ∧ Rw w w' v H) ∧ Below w.heap.size w w' := by
  have HC := Lib.hid (hosts_c h)
  have CL := Lib.hid (fun W (q : Below w.heap.size w W) => CloneS_c ((h.below q).ss) (by have := h.count.2.2; omega))
  clear h
  go_enter Try.func14, Try.ntmps14
  go_wp2_with fail
  refine HC.out.mono ?_
  rintro e w1 ⟨rfl, hb⟩
  have B1 := Lib.hid hb
  clear hb HC
  go_wp2_with fail
  refine (CL.out _ B1.out).mono ?_
  rintro e w2 ⟨⟨u, rfl, ho⟩, hb⟩
  have B2 := Lib.hid (bstep B1.out hb)
  have O2 := Lib.hid (ho.mono B1.out.size)
  clear hb ho CL
  go_wp2_with fail
  go_ret
  exact ⟨⟨_, rfl, O2.out.ss okh, fun _ => O2.out⟩, B2.out⟩
theorem List_nil (w : World) : Calls Try.prog 14 #[.pointer none] w fun e w' => (∃ a c, e = .returned (.slice a 0 c)) ∧ Below w.heap.size w w' := by
  go_enter Try.func14, Try.ntmps14
  go_wp2_with fail
  go_ret
  exact ⟨⟨_, _, rfl⟩, brefl w⟩
theorem Flags_c {w : World} {b : Nat} {Z : Nat → Prop} {R : List Ru} {H : List Ho} (h : PM w b Z R H) (hu : ∀ r ∈ R, uR r) (a : Int) : Calls Try.prog 13 #[.pointer (some ⟨b, 0, none⟩), .int .u32 a] w fun e w' => e = .returned (.tuple #[.int .i64 (flg a R), .int .i64 0]) ∧ Below w.heap.size w w' := by
  obtain ⟨ra, rc, k1, k2⟩ := h.rules
  have FO := Lib.hid (flagsOf_c k2 hu a)
  clear k2 h hu
  generalize flg a R = z at FO ⊢
  go_enter Try.func13, Try.ntmps13
  go_wp2_with fail
  refine FO.out.mono ?_
  rintro e w1 ⟨rfl, hb⟩
  have B1 := Lib.hid hb
  clear hb FO
  go_wp2_with fail
  go_ret2
  exact ⟨rfl, B1.out⟩
theorem Flags_nil (w : World) (a : Int) : Calls Try.prog 13 #[.pointer none, .int .u32 a] w fun e w' => e = .returned (.tuple #[.int .i64 0, .int .i64 1]) ∧ Below w.heap.size w w' := by
  go_enter Try.func13, Try.ntmps13
  go_wp2_with fail
  go_ret2
  exact ⟨rfl, brefl w⟩
theorem lastRaw_c {w : World} {b : Nat} {Z : Nat → Prop} {R : List Ru} {H : List Ho} {l : Int} (h : PM w b Z R H) (h0 : H = [] → l = 0) (h1 : ∀ x T, H = x :: T → l = x.last) : Calls Try.prog 19 #[.pointer (some ⟨b, 0, none⟩)] w fun e w' => e = .returned (.int .i64 l) ∧ w' = w := by
  obtain ⟨k1, _, _⟩ := h.count
  cases H with
  | nil =>
    obtain rfl := h0 rfl
    have k2 : w.cell? ⟨b, 65, none⟩ = some (.int .i64 0) := k1
    clear h h0 h1 k1
    go_enter Try.func19, Try.ntmps19
    go_wp2_with fail
    go_ret
    exact ⟨rfl, rfl⟩
  | cons x T =>
    obtain rfl := h1 x T rfl
    have k2 : w.cell? ⟨b, 2, none⟩ = some (.int .i64 x.last) := by
      obtain ⟨V, rv, _, _, h3, _, _, _, h7, _⟩ := h
      exact (h3.2 2 _ (h7 0 x rfl 1 _ rfl)).1
    rw [List.length_cons] at k1
    have z : ((((T.length + 1 : Nat) : Int)) == 0) = false := by rw [beq_eq_false_iff_ne]; omega
    generalize T.length + 1 = n at *
    generalize x.last = l at *
    clear h h0 h1
    go_enter Try.func19, Try.ntmps19
    go_wp2_with fail
    go_ret
    exact ⟨rfl, rfl⟩
end Go.Proofs.Ytdngoopogajhiaa.Gu
