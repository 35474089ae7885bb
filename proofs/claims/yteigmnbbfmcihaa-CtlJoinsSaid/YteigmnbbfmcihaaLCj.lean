/-
  CtlJoins: What was cut is put together again in whatever order it comes, and not with a piece too few or twice. The law returns true for every input, and the input reads as it did.
  Conditions: none.
-/
import Derived.Test.YteigmnbbfmcihaaRows
import Derived.Test.YteigmnbbfmcihaaCuC
import Derived.Test.YteigmnbbfmcihaaCtY
import Derived.Deep.CutBlock
import Derived.Deep.CutRange
import Derived.SizedLaws
import Derived.Lib.SmallJoins
namespace Go.Proofs.Yteigmnbbfmcihaa.ctlJoins
open Go.ChangeShapes Go.WideShapes Go.ChangeAt Go.RowKit Go.Joins By Ct
set_option linter.unusedVariables false
set_option linter.unusedSimpArgs false

theorem own : ownKnob Try.prog.godebug = none := by kernel_rfl
theorem laidOut : laidOutB Try.prog = true := by kernel_rfl
theorem blk_overO {w : World} {b b' o : Nat} {l : List Value} (h : Blk w b l) (hb : b ≠ b') (vs : List Value) : Blk (w.setCells b' o vs) b l :=
  ⟨by rw [size_over]; exact h.1, fun i x hx => ⟨by rw [World.cell?_setCells_out b' vs o w ⟨b, i, none⟩ (fun e _ => absurd e hb)]; exact (h.2 i x hx).1, by rw [World.frozen?_setCells]; exact (h.2 i x hx).2⟩⟩
theorem cr_there {w : World} {g : Nat} {M : List (Fr × Value)} (h : Cr w g M) {j : Nat} (hj : j < M.length) : w.there g (j * 10) 10 := fun k hk => h.there hj k hk
theorem cr_range {w : World} {g : Nat} {M : List (Fr × Value)} (h : Cr w g M) {j : Nat} {x : Fr × Value} (hx : M[j]? = some x) : w.rangeAt g (j * 10) (fvs x.1 x.2) := by
  have := h.range hx
  rwa [Nat.zero_add] at this
theorem cr_set {w : World} {g : Nat} {M : List (Fr × Value)} (h : Cr w g M) {j : Nat} (hj : j < M.length) (x : Fr) (y : Value) : Cr (w.setCells g (j * 10) (fvs x y)) g (M.set j (x, y)) := by
  have := h.set hj x y
  rwa [Nat.zero_add] at this
theorem own_fl {w : World} {base : Nat} {v : Value} {M : List (Fr × Value)} (h : OwnR w base v M) (hd : ∀ x ∈ M, Sl w x.2 x.1.dat) : Fl w v M := by
  by_cases hl : 0 < M.length
  · obtain ⟨g, c, rfl, _, hc, hm, cr⟩ := cr_own h hl
    exact cr.fl hc hm hd
  · have e : M = [] := List.length_eq_zero_iff.1 (by omega)
    subst e
    rcases h.1.2 with ⟨hv, h0⟩ | ⟨g, cap, cur, hv, hb, hh, hc, hm, _⟩
    · exact ⟨none, 0, hv, Nat.le_refl _, by omega, fun q => absurd q (by simp), fun x hx => by cases hx⟩
    · exact ⟨some ⟨g, 0, none⟩, cap, hv, hc, by unfold maxLen at hm; omega, fun q => absurd q (by simp), fun x hx => by cases hx⟩
theorem oneD {w : World} {base : Nat} {v : Value} {l : List (Fr × Value)} (h : OwnR w base v l) (t : Nat) : ∀ u ∈ rcs (l.drop t), u.oneCell' = true := fun u hu => h.2 u (by rw [rcs_drop] at hu; exact List.mem_of_mem_drop hu)
theorem oneT {w : World} {base : Nat} {v : Value} {l : List (Fr × Value)} (h : OwnR w base v l) (t : Nat) : ∀ u ∈ rcs (l.take t), u.oneCell' = true := fun u hu => h.2 u (by rw [rcs_take] at hu; exact List.mem_of_mem_take hu)
theorem turn_of (z : Int) (m : Nat) (h1 : -9223372036854775808 ≤ z) (h2 : z ≤ 9223372036854775807) (h3 : 0 < m) (h4 : m ≤ 1000) :
    ∃ (q : Int) (t : Nat), z.tmod (m : Int) = q ∧ IntKind.i64.wrap q = q ∧ IntKind.i64.wrap (q + (m : Int)) = q + (m : Int) ∧ (q + (m : Int)).tmod (m : Int) = (t : Int) ∧ IntKind.i64.wrap (t : Int) = (t : Int) ∧ t < m := by
  have k : (0 : Int) < (m : Int) := by omega
  have a1 := Int.tmod_lt_of_pos z k
  have a2 := Int.lt_tmod_of_pos z k
  have b0 : 0 ≤ z.tmod (m : Int) + (m : Int) := by omega
  have b1 := Int.tmod_nonneg (m : Int) b0
  have b2 := Int.tmod_lt_of_pos (z.tmod (m : Int) + (m : Int)) k
  refine ⟨_, ((z.tmod (m : Int) + (m : Int)).tmod (m : Int)).toNat, rfl, wrap_in (by omega) (by omega), wrap_in (by omega) (by omega), by omega, wrap_in (by omega) (by omega), by omega⟩
set_option maxRecDepth 100000 in
set_option maxHeartbeats 64000000 in
theorem walk (f : Fr) (dv : Value) (v : Value) (n : Nat) (g : Nat → Nat) (z2 z3 : Int) (w : World) (P : Fm w f dv) (A : Arg w v n g) (g2 : (Lit.int .i64 z2).wf = true) (g3 : (Lit.int .i64 z3).wf = true) :
    Calls Try.prog 6 #[FV f dv, v, .int .i64 z2, .int .i64 z3] w fun e w' => e = .returned (.bool true) ∧ Below w.heap.size w w' := by
  have S0 := A.sb
  have hg : ∀ i, g i < 256 := by obtain ⟨_, _, _, _, _, h, _⟩ := A; exact h
  have hn : n ≤ 140737488351232 := by obtain ⟨_, _, _, h1, h2, _⟩ := A; omega
  have HB2 : Hid (-9223372036854775808 ≤ z2 ∧ z2 ≤ 9223372036854775807) := Lib.hid (bounds_i64 g2)
  have HB3 : Hid (-9223372036854775808 ≤ z3 ∧ z3 ≤ 9223372036854775807) := Lib.hid (bounds_i64 g3)
  obtain ⟨sa, sc, rfl⟩ := S0.form
  obtain ⟨da, dc, rfl⟩ := P.form
  have AW := fun z => Lib.hid (awake10_c z)
  have B1 := Lib.hid (balloc (brefl w) (.cells #[.int .i64 f.ver, .bool f.resp, .bool f.er, .bool f.more, .int .i64 f.op, .int .i64 f.seq, .int .i64 f.st, .int .i64 f.asc, .int .i64 f.off, (.slice da f.dat.length dc)] 24))
  have NP : Hid (Blk (w.alloc (.cells #[.int .i64 f.ver, .bool f.resp, .bool f.er, .bool f.more, .int .i64 f.op, .int .i64 f.seq, .int .i64 f.st, .int .i64 f.asc, .int .i64 f.off, (.slice da f.dat.length dc)] 24)) w.heap.size (fvs f (.slice da f.dat.length dc))) := Lib.hid (Blk.new' w #[.int .i64 f.ver, .bool f.resp, .bool f.er, .bool f.more, .int .i64 f.op, .int .i64 f.seq, .int .i64 f.st, .int .i64 f.asc, .int .i64 f.off, (.slice da f.dat.length dc)] 24)
  have HC : Hid (∀ z, Below w.heap.size w z → Calls Try.prog 14 #[.agg (fvs f (.slice da f.dat.length dc)).toArray, .slice sa n sc] z fun e w' => PCut f n g z e w') := Lib.hid (fun z k => Cut_any (P.below k) (S0.below k) hn)
  have HG := Lib.hid hg
  have HS := Lib.hid S0
  clear A P S0 hg hn g2 g3
  go_enter Try.func6, Try.ntmps6
  go_wp2_with fail
  generalize w.alloc (.cells #[.int .i64 f.ver, .bool f.resp, .bool f.er, .bool f.more, .int .i64 f.op, .int .i64 f.seq, .int .i64 f.st, .int .i64 f.asc, .int .i64 f.off, (.slice da f.dat.length dc)] 24) = w1 at *
  refine (AW w1).out.mono ?_
  rintro e w2 ⟨rfl, hb⟩
  have B2 := Lib.hid (bstep B1.out hb)
  have NP2 := Lib.hid (NP.out.below hb)
  clear B1 NP hb AW
  go_upto_region 3 with fail
  go_wp2_with (refine wpList_load_mid rfl 24 _ rfl _ 0 rfl (fvs f (.slice da f.dat.length dc)) _ NP2.out.range Try.underlying24 rfl (by rw [fvs_len]; exact info_fr) ?_)
  refine (HC.out _ B2.out).mono ?_
  rintro e w3 ⟨⟨v1, row, rfl, r1, q1, _⟩, hb⟩
  have B3 := Lib.hid (bstep B2.out hb)
  have R1 := Lib.hid r1
  have FL3 := Lib.hid (cut_fl HG.out r1 q1)
  obtain ⟨a1, c1, rfl⟩ := ownR_form r1.1
  clear HC B2 NP2 hb r1
  by_cases hc : ¬ ce f n = 0
  · have e0 : row = [] := List.map_eq_nil_iff.1 (q1.trans (by unfold cp; rw [if_neg hc]))
    subst e0
    have e1 : (ce f n != 0) = true := by simpa using hc
    clear q1
    go_wp2_with fail
    go_ret
    exact ⟨rfl, B3.out⟩
  replace hc : ce f n = 0 := Decidable.not_not.1 hc
  have hq : row.map Prod.fst = pcs f n g := q1.trans (by unfold cp; rw [if_pos hc]; rfl)
  have hok : okFr f = true ∧ n ≤ 65535 := by
    unfold ce at hc
    split at hc
    · split at hc
      · exact ⟨by assumption, by assumption⟩
      · omega
    · omega
  obtain ⟨m, hm⟩ : ∃ m, row.length = m := ⟨_, rfl⟩
  have hmn : m = npc n := by rw [← hm, ← pcs_len f n g, ← hq, List.length_map]
  have m1 : 0 < m := by rw [hmn]; exact npc_pos n
  have m2 : m ≤ 141 := by rw [hmn]; exact npc_le hok.2
  have HQ := Lib.hid hq
  have HOK := Lib.hid hok
  have HM := Lib.hid hm
  have HMN := Lib.hid hmn
  obtain ⟨g0, c0, ev, gb, gc, gm, cr⟩ := cr_own R1.out.1 (by omega)
  obtain ⟨rfl, rfl⟩ : a1 = some ⟨g0, 0, none⟩ ∧ c1 = c0 := by cases ev; exact ⟨rfl, rfl⟩
  have CR := Lib.hid cr
  rw [hm] at gc
  have k1 : (m : Int) ≤ (c1 : Int) := by omega
  have k2 : (c1 : Int) ≤ 9223372036854775807 := by unfold maxLen at gm; omega
  have k3 : ((m : Int) == 0) = false := beq_eq_false_iff_ne.2 (by omega)
  have k4 : ¬ (m : Int) = 0 := by omega
  have GM := Lib.hid gm
  obtain ⟨q3, t, T1, T2, T3, T4, T5, ht⟩ := turn_of z3 m HB3.out.1 HB3.out.2 m1 (by omega)
  obtain ⟨q2, u, U1, U2, U3, U4, U5, hu⟩ := turn_of z2 m HB2.out.1 HB2.out.2 m1 (by omega)
  rw [hm, hc]
  clear ev cr gm hq hok hmn hm q1 hc
  have t1 : (t : Int) ≤ (m : Int) := by omega
  have t0 : (0 : Int) ≤ (t : Int) := by omega
  have t2 : (t : Int) ≤ (c1 : Int) := by omega
  have ct : ¬ c1 = t := by omega
  have u1 : (u : Int) < (m : Int) := by omega
  have u0 : (0 : Int) ≤ (u : Int) := by omega
  go_upto_region 10 with fail
  refine wp_region_held_drew (S := fun _ => True) (by kernel_rfl) trivial (fun hHeld => ?_)
  refine wpAnyH_take (i := 1) (v := ?_) rfl (by kernel_rfl) (by kernel_rfl) (by kernel_rfl) (fun _ _ _ h => h) (Or.inl ⟨by rfl, ?_⟩) hHeld ?_
  rotate_left
  · ((intro w _; go_simp); try with_reducible rfl)
  (try simp only [List.getElem_toArray, List.getElem_cons_succ, List.getElem_cons_zero, Act.put, List.setIfInBounds_toArray, List.set_cons_zero, List.set_cons_succ])
  refine wpAnyH_take (i := 2) (v := ?_) rfl (by kernel_rfl) (by kernel_rfl) (by kernel_rfl) (fun _ _ _ h => h) (Or.inl ⟨by rfl, ?_⟩) hHeld ?_
  rotate_left
  · ((intro w _; go_simp); try with_reducible rfl)
  (try simp only [List.getElem_toArray, List.getElem_cons_succ, List.getElem_cons_zero, Act.put, List.setIfInBounds_toArray, List.set_cons_zero, List.set_cons_succ])
  refine wpAnyH_take (i := 3) (v := ?_) rfl (by kernel_rfl) (by kernel_rfl) (by kernel_rfl) (fun _ _ _ h => h) (Or.inl ⟨by rfl, ?_⟩) hHeld ?_
  rotate_left
  · ((intro w _; go_simp); try with_reducible rfl)
  (try simp only [List.getElem_toArray, List.getElem_cons_succ, List.getElem_cons_zero, Act.put, List.setIfInBounds_toArray, List.set_cons_zero, List.set_cons_succ])
  refine wpAnyH_take (i := 5) (v := ?_) rfl (by kernel_rfl) (by kernel_rfl) (by kernel_rfl) (fun _ _ _ h => h) (Or.inl ⟨by rfl, ?_⟩) hHeld ?_
  rotate_left
  · ((intro w _; go_simp); try with_reducible rfl)
  (try simp only [List.getElem_toArray, List.getElem_cons_succ, List.getElem_cons_zero, Act.put, List.setIfInBounds_toArray, List.set_cons_zero, List.set_cons_succ])
  refine wpAnyH_take (i := 6) (v := ?_) rfl (by kernel_rfl) (by kernel_rfl) (by kernel_rfl) (fun _ _ _ h => h) (Or.inl ⟨by rfl, ?_⟩) hHeld ?_
  rotate_left
  · ((intro w _; go_simp); try with_reducible rfl)
  (try simp only [List.getElem_toArray, List.getElem_cons_succ, List.getElem_cons_zero, Act.put, List.setIfInBounds_toArray, List.set_cons_zero, List.set_cons_succ])
  refine wpAnyH_take (i := 7) (v := ?_) rfl (by kernel_rfl) (by kernel_rfl) (by kernel_rfl) (fun _ _ _ h => h) (Or.inl ⟨by rfl, ?_⟩) hHeld ?_
  rotate_left
  · ((intro w _; go_simp); try with_reducible rfl)
  (try simp only [List.getElem_toArray, List.getElem_cons_succ, List.getElem_cons_zero, Act.put, List.setIfInBounds_toArray, List.set_cons_zero, List.set_cons_succ])
  refine wpAnyH_ready (rs := [0]) (by kernel_rfl) (by simp) (AllReadyH.cons rfl (fun KQ hKQ => ?_) AllReadyH.nil)
  go_simp
  refine hKQ.out _ _ trivial (fun hH2 => ?_)
  clear hKQ KQ hHeld
  have hHeld := hH2
  clear hH2
  (try simp only [List.getElem_toArray, List.getElem_cons_succ, List.getElem_cons_zero, Act.put, List.setIfInBounds_toArray, List.set_cons_zero, List.set_cons_succ])
  have O0 := ownR0 w3 w3.heap.size (Nat.le_refl _)
  have O4 : Hid (OwnR (w3.alloc (.cells #[] 24)).drew w3.heap.size (.slice (some ⟨w3.heap.size, 0, none⟩) 0 0) []) := Lib.hid ⟨row_below O0.1 (brefl _).drew, O0.2⟩
  have B4 : Hid (Below w3.heap.size w3 ((w3.alloc (.cells #[] 24)).drew)) := Lib.hid (bstep (balloc (brefl w3) _) (brefl _).drew)
  clear O0
  generalize (w3.alloc (.cells #[] 24)).drew = w4 at *
  obtain ⟨va, w5, ra, oa, ba, _⟩ := appS O4.out (row.drop t) ⟨g0, 0 + t * 10, none⟩ (c1 - t) (drop_cells (CR.out.below B4.out).cells t) (oneD R1.out.1 t) B4.out.size (by rw [List.length_drop, HM.out]; simp; omega) 37
  rw [List.nil_append] at oa
  obtain ⟨aa, ac, rfl⟩ := ownR_form oa
  rw [List.length_drop, HM.out, Nat.zero_add] at ra
  have RA := Lib.hid ra
  have B5 : Hid (Below w3.heap.size w3 w5) := Lib.hid (B4.out.trans ba)
  obtain ⟨vb, w6, rb, ob, bb, _⟩ := appS oa (row.take t) ⟨g0, 0, none⟩ c1 (take_cells (CR.out.below B5.out).cells t) (oneT R1.out.1 t) B5.out.size (by rw [List.length_drop, List.length_take, HM.out]; omega) 37
  rw [List.length_drop, List.length_take, HM.out, Nat.min_eq_left (by omega)] at rb
  have lmix : (row.drop t ++ row.take t).length = m := by rw [List.length_append, List.length_drop, List.length_take, HM.out]; omega
  obtain ⟨gx, cx, rfl, gxb, gxc, gxm, crx⟩ := cr_own ob (by rw [lmix]; exact m1)
  rw [lmix] at rb gxc
  have RB := Lib.hid rb
  have B6 : Hid (Below w3.heap.size w3 w6) := Lib.hid (B5.out.trans bb)
  have CX := Lib.hid crx
  have GXB := Lib.hid gxb
  have LMIX := Lib.hid lmix
  have GXM := Lib.hid gxm
  clear ra oa ba rb ob bb crx gxb lmix
  refine wpAnyH_ready (rs := [4]) (by kernel_rfl) (by simp) (AllReadyH.cons rfl (fun KQ hKQ => ?_) AllReadyH.nil)
  refine step_append_eq rfl (.tmp 58) (.tmp 61) 37 rfl _ _ _ _ rfl rfl RA.out ?_
  refine hKQ.out _ _ trivial (fun hH2 => ?_)
  clear hKQ KQ hHeld
  have hHeld := hH2
  clear hH2
  (try simp only [List.getElem_toArray, List.getElem_cons_succ, List.getElem_cons_zero, Act.put, List.setIfInBounds_toArray, List.set_cons_zero, List.set_cons_succ])
  refine wpAnyH_ready (rs := [8]) (by kernel_rfl) (by simp) (AllReadyH.cons rfl (fun KQ hKQ => ?_) AllReadyH.nil)
  refine step_append_eq rfl (.tmp 62) (.tmp 65) 37 rfl _ _ _ _ rfl rfl RB.out ?_
  refine hKQ.out _ _ trivial (fun hH2 => ?_)
  clear hKQ KQ hHeld
  have hHeld := hH2
  clear hH2
  (try simp only [List.getElem_toArray, List.getElem_cons_succ, List.getElem_cons_zero, Act.put, List.setIfInBounds_toArray, List.set_cons_zero, List.set_cons_succ])
  refine wpAnyH_take (i := 9) (v := ?_) rfl (by kernel_rfl) (by kernel_rfl) (by kernel_rfl) (fun _ _ _ h => h) (Or.inl ⟨by rfl, ?_⟩) hHeld ?_
  rotate_left
  · ((intro w _; go_simp); try with_reducible rfl)
  (try simp only [List.getElem_toArray, List.getElem_cons_succ, List.getElem_cons_zero, Act.put, List.setIfInBounds_toArray, List.set_cons_zero, List.set_cons_succ])
  refine wpAnyH_done (by kernel_rfl) ?_ _
  clear RA RB O4
  clear T1 T2 T3 T4 T5 U1 U2 U3 U4 U5
  obtain ⟨R, hR⟩ : ∃ R, row.drop t ++ row.take t = R := ⟨_, rfl⟩
  have PR : Hid (R.Perm row) := Lib.hid (by rw [← hR]; exact List.perm_append_comm.trans (by rw [List.take_append_drop]))
  rw [hR] at CX LMIX
  have HR := Lib.hid hR
  have SD : Hid (∀ x ∈ row, Sl w3 x.2 x.1.dat) := Lib.hid (by obtain ⟨_, _, _, _, _, _, h4⟩ := FL3.out; exact h4)
  obtain ⟨hf, hhf⟩ : ∃ hf, m / 2 = hf := ⟨_, rfl⟩
  have HHF := Lib.hid hhf
  have gx1 : (m : Int) ≤ (cx : Int) := by omega
  have gx2 : (cx : Int) ≤ 9223372036854775807 := by have := GXM.out; unfold maxLen at this; omega
  have dv1 : (m : Int).tdiv 2 = (hf : Int) := by rw [Int.tdiv_eq_ediv_of_nonneg (by omega)]; omega
  have dv2 : (m : Int) / 2 = (hf : Int) := by omega
  have B3X : Hid (w3.heap.size ≤ w3.heap.size) := Lib.hid (Nat.le_refl _)
  have R0 : Hid (Sw R R 0) := Lib.hid (Sw.start R)
  clear hR hhf
  go_upto_block 0 with fail
  go_cut [12, 13] from 67 to 96 (fun _ _ wr => ∃ M : List (Fr × Value), Cr wr gx M ∧ M.Perm row ∧ Below w3.heap.size w3 wr)
  case first =>
    go_wp2_with fail
    go_loopw [12, 13] (fun iv _ wr => ∃ (i : Nat) (M : List (Fr × Value)), i ≤ hf ∧ iv = .int .i64 i ∧ Sw R M i ∧ Cr wr gx M ∧ Below w3.heap.size w3 wr) (fun iv _ _ => hf - (intOf iv).toNat)
    case atStart => exact ⟨0, R, Nat.zero_le _, rfl, R0.out, CX.out, B6.out⟩
    case round =>
      obtain ⟨i, M, hi, rfl, hs, hc, hb⟩ := hrel
      rename World => wr
      have SS := Lib.hid hs
      have CM := Lib.hid hc
      have BR := Lib.hid hb
      have ML : Hid (M.length = m) := Lib.hid (hs.1.trans LMIX.out)
      clear hs hc hb CX B6
      by_cases c : i < hf
      · have e1 : decide ((i : Int) < (hf : Int)) = true := decide_eq_true (by omega)
        have hm2 := HHF.out
        obtain ⟨j, hj⟩ : ∃ j, m - 1 - i = j := ⟨_, rfl⟩
        have HJ := Lib.hid hj
        have j1 : (m : Int) - 1 - (i : Int) = (j : Int) := by omega
        have j2 : (j : Int) < (m : Int) := by omega
        have j0 : (0 : Int) ≤ (j : Int) := by omega
        have i2 : (i : Int) < (m : Int) := by omega
        have i0 : (0 : Int) ≤ (i : Int) := by omega
        have jm : j < m := by omega
        have im : i < m := by omega
        obtain ⟨x, hx⟩ : ∃ x, M[i]? = some x := ⟨_, List.getElem?_eq_getElem (by rw [ML.out]; exact im)⟩
        obtain ⟨y, hy⟩ : ∃ y, M[j]? = some y := ⟨_, List.getElem?_eq_getElem (by rw [ML.out]; exact jm)⟩
        have xr : x ∈ row := PR.out.mem_iff.1 (by
          have := SS.out.2 i (by rw [LMIX.out]; exact im)
          rw [hx] at this
          exact List.mem_of_getElem? this.symm)
        have yr : y ∈ row := PR.out.mem_iff.1 (by
          have := SS.out.2 j (by rw [LMIX.out]; exact jm)
          rw [hy] at this
          exact List.mem_of_getElem? this.symm)
        obtain ⟨xa, xc, xe⟩ := (SD.out x xr).form
        obtain ⟨ya, yc, ye⟩ := (SD.out y yr).form
        obtain ⟨xf, xv⟩ := x
        obtain ⟨yf, yv⟩ := y
        simp only at xe ye
        subst xe ye
        have SN : Hid (Sw R ((M.set i (yf, .slice ya yf.dat.length yc)).set j (xf, .slice xa xf.dat.length xc)) (i + 1)) := Lib.hid (by
          have := SS.out.step (x := (xf, .slice xa xf.dat.length xc)) (y := (yf, .slice ya yf.dat.length yc)) (by rw [LMIX.out]; omega) hx (by rw [LMIX.out, HJ.out]; exact hy)
          rwa [LMIX.out, HJ.out] at this)
        have BX := Lib.hid (balloc (brefl wr) (.cells #[.int .i64 xf.ver, .bool xf.resp, .bool xf.er, .bool xf.more, .int .i64 xf.op, .int .i64 xf.seq, .int .i64 xf.st, .int .i64 xf.asc, .int .i64 xf.off, .slice xa xf.dat.length xc] 24))
        have NX : Hid (Blk (wr.alloc (.cells #[.int .i64 xf.ver, .bool xf.resp, .bool xf.er, .bool xf.more, .int .i64 xf.op, .int .i64 xf.seq, .int .i64 xf.st, .int .i64 xf.asc, .int .i64 xf.off, .slice xa xf.dat.length xc] 24)) wr.heap.size (fvs xf (.slice xa xf.dat.length xc))) := Lib.hid (Blk.new' wr #[.int .i64 xf.ver, .bool xf.resp, .bool xf.er, .bool xf.more, .int .i64 xf.op, .int .i64 xf.seq, .int .i64 xf.st, .int .i64 xf.asc, .int .i64 xf.off, .slice xa xf.dat.length xc] 24)
        have RX := Lib.hid (cr_range CM.out hx)
        have HY := Lib.hid hy
        have ZX : Hid (wr.heap.size ≠ gx) := Lib.hid (fun q => by have := CM.out.1; omega)
        clear hx hy xr yr hj hm2
        go_upto_region 14 with fail
        go_upto_region 15 with (refine wpList_load_mid rfl 24 _ rfl _ _ rfl [.int .i64 xf.ver, .bool xf.resp, .bool xf.er, .bool xf.more, .int .i64 xf.op, .int .i64 xf.seq, .int .i64 xf.st, .int .i64 xf.asc, .int .i64 xf.off, .slice xa xf.dat.length xc] _ RX.out Try.underlying24 rfl (by exact info_fr) ?_)
        generalize wr.alloc (.cells #[.int .i64 xf.ver, .bool xf.resp, .bool xf.er, .bool xf.more, .int .i64 xf.op, .int .i64 xf.seq, .int .i64 xf.st, .int .i64 xf.asc, .int .i64 xf.off, .slice xa xf.dat.length xc] 24) = wa at *
        have CA := Lib.hid (CM.out.below BX.out)
        have BA := Lib.hid (bstep BR.out BX.out)
        generalize wr.heap.size = gb at *
        go_upto_region 16 with (first | (refine wpList_load_mid rfl 24 _ rfl _ _ rfl (fvs yf (.slice ya yf.dat.length yc)) _ (cr_range CA.out HY.out) Try.underlying24 rfl (by rw [fvs_len]; exact info_fr) ?_) | (refine wpList_store_mid rfl 24 _ _ rfl _ (i * 10) (fvs yf (.slice ya yf.dat.length yc)).toArray rfl rfl (cr_there CA.out (by rw [ML.out]; exact im)) info_fr (all_oneCell_toArray (fvs_one _ _ rfl)) ?_))
        have CB := Lib.hid (cr_set CA.out (by rw [ML.out]; exact im) yf (.slice ya yf.dat.length yc))
        have BB := Lib.hid (below_over (Nat.le_trans B3X.out GXB.out) (fvs yf (.slice ya yf.dat.length yc)) (i * 10) BA.out)
        have NB := Lib.hid (blk_overO (o := i * 10) NX.out ZX.out (fvs yf (.slice ya yf.dat.length yc)))
        try rw [List.toList_toArray]
        generalize wa.setCells gx (i * 10) (fvs yf (.slice ya yf.dat.length yc)) = wb at *
        clear CA BA NX
        go_upto_region 13 with (first | (refine wpList_load_mid rfl 24 _ rfl _ _ rfl (fvs xf (.slice xa xf.dat.length xc)) _ NB.out.range Try.underlying24 rfl (by rw [fvs_len]; exact info_fr) ?_) | (refine wpList_store_mid rfl 24 _ _ rfl _ (j * 10) (fvs xf (.slice xa xf.dat.length xc)).toArray rfl rfl (cr_there CB.out (by rw [List.length_set, ML.out]; exact jm)) info_fr (all_oneCell_toArray (fvs_one _ _ rfl)) ?_))
        have CC := Lib.hid (cr_set CB.out (j := j) (by rw [List.length_set, ML.out]; exact jm) xf (.slice xa xf.dat.length xc))
        have BC := Lib.hid (below_over (Nat.le_trans B3X.out GXB.out) (fvs xf (.slice xa xf.dat.length xc)) (j * 10) BB.out)
        try rw [List.toList_toArray]
        generalize wb.setCells gx (j * 10) (fvs xf (.slice xa xf.dat.length xc)) = wc at *
        clear CB BB NB
        go_wp2_with fail
        go_roundw
        case rel => exact ⟨i + 1, _, by omega, by go_num, SN.out, CC.out, BC.out⟩
        case measure => simp [intOf]; omega
      · have e1 : decide ((i : Int) < (hf : Int)) = false := decide_eq_false (by omega)
        have PM : Hid (M.Perm row) := Lib.hid ((SS.out.done (by rw [LMIX.out, HHF.out]; exact c) (by rw [LMIX.out, HHF.out]; omega)).trans PR.out)
        go_wp2_with fail
        go_meet
        exact ⟨M, CM.out, PM.out, BR.out⟩
  obtain ⟨M, cm, pm, bm⟩ := hcut
  rename World => wm
  have CM := Lib.hid cm
  have PM := Lib.hid pm
  have BM := Lib.hid bm
  clear cm pm bm CX B6 R0 dv1 dv2
  have ML : Hid (M.length = m) := Lib.hid (PM.out.length_eq.trans HM.out)
  have SM : Hid (∀ x ∈ M, Sl wm x.2 x.1.dat) := Lib.hid (fun x hx => (SD.out x (PM.out.mem_iff.1 hx)).below BM.out)
  have J1 := Lib.hid (Join_any (CM.out.fl (c := cx) (by rw [ML.out]; omega) GXM.out SM.out) (by rw [ML.out]; omega))
  have MJ := mixed_j HOK.out.1 HOK.out.2 (L := M.map Prod.fst) (g := g) (by rw [← HQ.out]; exact (PM.out.map Prod.fst).symm)
  unfold PJoin at J1
  rw [MJ.1, MJ.2, ML.out] at J1
  clear MJ CM ML SM
  go_upto_region 17 with fail
  go_wp2_with fail
  refine J1.out.mono ?_
  rintro e wj ⟨⟨va, rfl, oa⟩, hb⟩
  have OA := Lib.hid oa
  have BJ := Lib.hid (bstep BM.out hb)
  obtain ⟨aa, ac, rfl⟩ : ∃ a c, va = .slice a n c := by have := own_form oa; rwa [bl_len] at this
  clear J1 hb oa BM
  go_upto_region 18 with fail
  go_cut [16, 17] from 102 to 115 (fun lv ev wr => ev = .int .i64 5 ∧ (∃ a c, lv = .slice a 0 c) ∧ Below w3.heap.size w3 wr ∧ Below wj.heap.size wj wr)
  case first =>
    obtain ⟨v, hv⟩ : ∃ v, u + 1 = v := ⟨_, rfl⟩
    have HV := Lib.hid hv
    have v0 : (0 : Int) ≤ (v : Int) := by omega
    have v1 : (v : Int) ≤ (m : Int) := by omega
    have v2 : (v : Int) ≤ (c1 : Int) := by omega
    have v4 : (u : Int) + 1 = (v : Int) := by omega
    have v5 : IntKind.i64.wrap (v : Int) = (v : Int) := wrap_in (by omega) (by omega)
    have u2 : (u : Int) ≤ (c1 : Int) := by omega
    have u3 : (u : Int) ≤ (m : Int) := by omega
    clear hv
    by_cases cv : c1 = v
    · have e1 : m = c1 := by omega
      have e2 : m = v := by omega
      subst e1
      subst e2
      have u5 : u ≤ m := by omega
      refine wp_region_held_drew (S := fun _ => True) (by kernel_rfl) trivial (fun hHeld => ?_)
      refine wpAnyH_take (i := 1) (v := ?_) rfl (by kernel_rfl) (by kernel_rfl) (by kernel_rfl) (fun _ _ _ h => h) (Or.inl ⟨by rfl, ?_⟩) hHeld ?_
      rotate_left
      · ((intro w _; go_simp); try with_reducible rfl)
      (try simp only [List.getElem_toArray, List.getElem_cons_succ, List.getElem_cons_zero, Act.put, List.setIfInBounds_toArray, List.set_cons_zero, List.set_cons_succ])
      refine wpAnyH_take (i := 2) (v := ?_) rfl (by kernel_rfl) (by kernel_rfl) (by kernel_rfl) (fun _ _ _ h => h) (Or.inl ⟨by rfl, ?_⟩) hHeld ?_
      rotate_left
      · ((intro w _; go_simp); try with_reducible rfl)
      (try simp only [List.getElem_toArray, List.getElem_cons_succ, List.getElem_cons_zero, Act.put, List.setIfInBounds_toArray, List.set_cons_zero, List.set_cons_succ])
      refine wpAnyH_take (i := 3) (v := ?_) rfl (by kernel_rfl) (by kernel_rfl) (by kernel_rfl) (fun _ _ _ h => h) (Or.inl ⟨by rfl, ?_⟩) hHeld ?_
      rotate_left
      · ((intro w _; go_simp); try with_reducible rfl)
      (try simp only [List.getElem_toArray, List.getElem_cons_succ, List.getElem_cons_zero, Act.put, List.setIfInBounds_toArray, List.set_cons_zero, List.set_cons_succ])
      refine wpAnyH_take (i := 5) (v := ?_) rfl (by kernel_rfl) (by kernel_rfl) (by kernel_rfl) (fun _ _ _ h => h) (Or.inl ⟨by rfl, ?_⟩) hHeld ?_
      rotate_left
      · ((intro w _; go_simp); try with_reducible rfl)
      (try simp only [List.getElem_toArray, List.getElem_cons_succ, List.getElem_cons_zero, Act.put, List.setIfInBounds_toArray, List.set_cons_zero, List.set_cons_succ])
      refine wpAnyH_take (i := 6) (v := ?_) rfl (by kernel_rfl) (by kernel_rfl) (by kernel_rfl) (fun _ _ _ h => h) (Or.inl ⟨by rfl, ?_⟩) hHeld ?_
      rotate_left
      · ((intro w _; go_simp); try with_reducible rfl)
      (try simp only [List.getElem_toArray, List.getElem_cons_succ, List.getElem_cons_zero, Act.put, List.setIfInBounds_toArray, List.set_cons_zero, List.set_cons_succ])
      refine wpAnyH_take (i := 7) (v := ?_) rfl (by kernel_rfl) (by kernel_rfl) (by kernel_rfl) (fun _ _ _ h => h) (Or.inl ⟨by rfl, ?_⟩) hHeld ?_
      rotate_left
      · ((intro w _; go_simp); try with_reducible rfl)
      (try simp only [List.getElem_toArray, List.getElem_cons_succ, List.getElem_cons_zero, Act.put, List.setIfInBounds_toArray, List.set_cons_zero, List.set_cons_succ])
      refine wpAnyH_take (i := 8) (v := ?_) rfl (by kernel_rfl) (by kernel_rfl) (by kernel_rfl) (fun _ _ _ h => h) (Or.inl ⟨by rfl, ?_⟩) hHeld ?_
      rotate_left
      · ((intro w _; go_simp); try with_reducible rfl)
      (try simp only [List.getElem_toArray, List.getElem_cons_succ, List.getElem_cons_zero, Act.put, List.setIfInBounds_toArray, List.set_cons_zero, List.set_cons_succ])
      refine wpAnyH_ready (rs := [0]) (by kernel_rfl) (by simp) (AllReadyH.cons rfl (fun KQ hKQ => ?_) AllReadyH.nil)
      go_simp
      refine hKQ.out _ _ trivial (fun hH2 => ?_)
      clear hKQ KQ hHeld
      have hHeld := hH2
      clear hH2
      (try simp only [List.getElem_toArray, List.getElem_cons_succ, List.getElem_cons_zero, Act.put, List.setIfInBounds_toArray, List.set_cons_zero, List.set_cons_succ])
      have O0 := ownR0 wj wj.heap.size (Nat.le_refl _)
      have O4 : Hid (OwnR (wj.alloc (.cells #[] 24)).drew wj.heap.size (.slice (some ⟨wj.heap.size, 0, none⟩) 0 0) []) := Lib.hid ⟨row_below O0.1 (brefl _).drew, O0.2⟩
      have B4 : Hid (Below wj.heap.size wj ((wj.alloc (.cells #[] 24)).drew)) := Lib.hid (bstep (balloc (brefl wj) _) (brefl _).drew)
      clear O0
      generalize (wj.alloc (.cells #[] 24)).drew = w4 at *
      have CJ := Lib.hid (CR.out.below BJ.out)
      obtain ⟨vx, w5, ra, oa, ba, _⟩ := appS O4.out (row.take u) ⟨g0, 0, none⟩ m (take_cells (CJ.out.below B4.out).cells u) (oneT R1.out.1 u) B4.out.size (by rw [List.length_take, HM.out]; simp; omega) 37
      rw [List.nil_append] at oa
      obtain ⟨xa, xc, rfl⟩ := ownR_form oa
      rw [List.length_take, HM.out, Nat.min_eq_left (by omega)] at ra
      rw [List.length_take, HM.out, Nat.min_eq_left (by omega)] at oa
      have RA := Lib.hid ra
      have B5 : Hid (Below wj.heap.size wj w5) := Lib.hid (B4.out.trans ba)
      have dz : row.drop m = [] := List.drop_eq_nil_of_le (by rw [HM.out]; omega)
      obtain ⟨vb, w6, rb, ob, bb, _⟩ := appS oa (row.drop m) ⟨g0, 0, none⟩ 0 (by rw [dz]; intro j z hz; simp [rcs] at hz) (oneD R1.out.1 m) B5.out.size (by rw [List.length_drop, List.length_take, HM.out]; omega) 37
      rw [List.length_drop, HM.out, Nat.sub_self] at rb
      have B6 : Hid (Below wj.heap.size wj w6) := Lib.hid (B5.out.trans bb)
      have FB := own_fl ob (fun x hx => ((SD.out x (by rcases List.mem_append.1 hx with q | q; exact List.mem_of_mem_take q; exact List.mem_of_mem_drop q)).below BJ.out).below B6.out)
      have J2 := (Join_any FB (by rw [List.length_append, List.length_take, List.length_drop, HM.out]; omega))
      have LJ := less_j HOK.out.1 HOK.out.2 (g := g) (k := u) (by rw [← HMN.out]; exact hu)
      rw [HV.out] at LJ
      unfold PJoin at J2
      rw [List.map_append, List.map_take, List.map_drop, HQ.out, LJ.1, LJ.2] at J2
      obtain ⟨ba2, bc2, rfl⟩ := ownR_form ob
      obtain ⟨lq, hlq⟩ : ∃ lq, (row.take u ++ row.drop m).length = lq := ⟨_, rfl⟩
      rw [hlq] at rb J2
      have RB := Lib.hid rb
      have JH := Lib.hid J2
      clear hlq J2 ra oa ba rb ob bb FB LJ
      refine wpAnyH_ready (rs := [4]) (by kernel_rfl) (by simp) (AllReadyH.cons rfl (fun KQ hKQ => ?_) AllReadyH.nil)
      refine step_append_eq rfl (.tmp 103) (.tmp 106) 37 rfl _ _ _ _ rfl rfl RA.out ?_
      refine hKQ.out _ _ trivial (fun hH2 => ?_)
      clear hKQ KQ hHeld
      have hHeld := hH2
      clear hH2
      (try simp only [List.getElem_toArray, List.getElem_cons_succ, List.getElem_cons_zero, Act.put, List.setIfInBounds_toArray, List.set_cons_zero, List.set_cons_succ])
      refine wpAnyH_ready (rs := [9]) (by kernel_rfl) (by simp) (AllReadyH.cons rfl (fun KQ hKQ => ?_) AllReadyH.nil)
      refine step_append_eq rfl (.tmp 107) (.tmp 111) 37 rfl _ _ _ _ rfl rfl RB.out ?_
      refine hKQ.out _ _ trivial (fun hH2 => ?_)
      clear hKQ KQ hHeld
      have hHeld := hH2
      clear hH2
      (try simp only [List.getElem_toArray, List.getElem_cons_succ, List.getElem_cons_zero, Act.put, List.setIfInBounds_toArray, List.set_cons_zero, List.set_cons_succ])
      refine wpAnyH_ready (rs := [10]) (by kernel_rfl) (by simp) (AllReadyH.cons rfl (fun KQ hKQ => ?_) AllReadyH.nil)
      go_simp
      refine JH.out.mono ?_
      rintro e wk' ⟨⟨vl, rfl, ol⟩, hb⟩
      obtain ⟨la, lc, rfl⟩ := own_form ol
      have BK := Lib.hid (bstep (bstep BJ.out B6.out) hb)
      have BJK := Lib.hid (bstep B6.out hb)
      clear ol hb JH
      go_wp2_with fail
      refine hKQ.out _ _ trivial (fun hH2 => ?_)
      clear hKQ KQ hHeld
      have hHeld := hH2
      clear hH2
      (try simp only [List.getElem_toArray, List.getElem_cons_succ, List.getElem_cons_zero, Act.put, List.setIfInBounds_toArray, List.set_cons_zero, List.set_cons_succ])
      refine wpAnyH_take (i := 11) (v := ?_) rfl (by kernel_rfl) (by kernel_rfl) (by kernel_rfl) (fun _ _ _ h => h) (Or.inl ⟨by rfl, ?_⟩) hHeld ?_
      rotate_left
      · ((intro w _; go_simp); try with_reducible rfl)
      (try simp only [List.getElem_toArray, List.getElem_cons_succ, List.getElem_cons_zero, Act.put, List.setIfInBounds_toArray, List.set_cons_zero, List.set_cons_succ])
      refine wpAnyH_take (i := 12) (v := ?_) rfl (by kernel_rfl) (by kernel_rfl) (by kernel_rfl) (fun _ _ _ h => h) (Or.inl ⟨by rfl, ?_⟩) hHeld ?_
      rotate_left
      · ((intro w _; go_simp); try with_reducible rfl)
      (try simp only [List.getElem_toArray, List.getElem_cons_succ, List.getElem_cons_zero, Act.put, List.setIfInBounds_toArray, List.set_cons_zero, List.set_cons_succ])
      refine wpAnyH_take (i := 13) (v := ?_) rfl (by kernel_rfl) (by kernel_rfl) (by kernel_rfl) (fun _ _ _ h => h) (Or.inl ⟨by rfl, ?_⟩) hHeld ?_
      rotate_left
      · ((intro w _; go_simp); try with_reducible rfl)
      (try simp only [List.getElem_toArray, List.getElem_cons_succ, List.getElem_cons_zero, Act.put, List.setIfInBounds_toArray, List.set_cons_zero, List.set_cons_succ])
      refine wpAnyH_take (i := 14) (v := ?_) rfl (by kernel_rfl) (by kernel_rfl) (by kernel_rfl) (fun _ _ _ h => h) (Or.inl ⟨by rfl, ?_⟩) hHeld ?_
      rotate_left
      · ((intro w _; go_simp); try with_reducible rfl)
      (try simp only [List.getElem_toArray, List.getElem_cons_succ, List.getElem_cons_zero, Act.put, List.setIfInBounds_toArray, List.set_cons_zero, List.set_cons_succ])
      refine wpAnyH_take (i := 15) (v := ?_) rfl (by kernel_rfl) (by kernel_rfl) (by kernel_rfl) (fun _ _ _ h => h) (Or.inl ⟨by rfl, ?_⟩) hHeld ?_
      rotate_left
      · ((intro w _; go_simp); try with_reducible rfl)
      (try simp only [List.getElem_toArray, List.getElem_cons_succ, List.getElem_cons_zero, Act.put, List.setIfInBounds_toArray, List.set_cons_zero, List.set_cons_succ])
      refine wpAnyH_done (by kernel_rfl) ?_ _
      clear RA RB O4 B4 B5 B6
      go_wp2_with fail
      go_meet
      exact ⟨rfl, ⟨la, lc, rfl⟩, BK.out, BJK.out⟩
    · refine wp_region_held_drew (S := fun _ => True) (by kernel_rfl) trivial (fun hHeld => ?_)
      refine wpAnyH_take (i := 1) (v := ?_) rfl (by kernel_rfl) (by kernel_rfl) (by kernel_rfl) (fun _ _ _ h => h) (Or.inl ⟨by rfl, ?_⟩) hHeld ?_
      rotate_left
      · ((intro w _; go_simp); try with_reducible rfl)
      (try simp only [List.getElem_toArray, List.getElem_cons_succ, List.getElem_cons_zero, Act.put, List.setIfInBounds_toArray, List.set_cons_zero, List.set_cons_succ])
      refine wpAnyH_take (i := 2) (v := ?_) rfl (by kernel_rfl) (by kernel_rfl) (by kernel_rfl) (fun _ _ _ h => h) (Or.inl ⟨by rfl, ?_⟩) hHeld ?_
      rotate_left
      · ((intro w _; go_simp); try with_reducible rfl)
      (try simp only [List.getElem_toArray, List.getElem_cons_succ, List.getElem_cons_zero, Act.put, List.setIfInBounds_toArray, List.set_cons_zero, List.set_cons_succ])
      refine wpAnyH_take (i := 3) (v := ?_) rfl (by kernel_rfl) (by kernel_rfl) (by kernel_rfl) (fun _ _ _ h => h) (Or.inl ⟨by rfl, ?_⟩) hHeld ?_
      rotate_left
      · ((intro w _; go_simp); try with_reducible rfl)
      (try simp only [List.getElem_toArray, List.getElem_cons_succ, List.getElem_cons_zero, Act.put, List.setIfInBounds_toArray, List.set_cons_zero, List.set_cons_succ])
      refine wpAnyH_take (i := 5) (v := ?_) rfl (by kernel_rfl) (by kernel_rfl) (by kernel_rfl) (fun _ _ _ h => h) (Or.inl ⟨by rfl, ?_⟩) hHeld ?_
      rotate_left
      · ((intro w _; go_simp); try with_reducible rfl)
      (try simp only [List.getElem_toArray, List.getElem_cons_succ, List.getElem_cons_zero, Act.put, List.setIfInBounds_toArray, List.set_cons_zero, List.set_cons_succ])
      refine wpAnyH_take (i := 6) (v := ?_) rfl (by kernel_rfl) (by kernel_rfl) (by kernel_rfl) (fun _ _ _ h => h) (Or.inl ⟨by rfl, ?_⟩) hHeld ?_
      rotate_left
      · ((intro w _; go_simp); try with_reducible rfl)
      (try simp only [List.getElem_toArray, List.getElem_cons_succ, List.getElem_cons_zero, Act.put, List.setIfInBounds_toArray, List.set_cons_zero, List.set_cons_succ])
      refine wpAnyH_take (i := 7) (v := ?_) rfl (by kernel_rfl) (by kernel_rfl) (by kernel_rfl) (fun _ _ _ h => h) (Or.inl ⟨by rfl, ?_⟩) hHeld ?_
      rotate_left
      · ((intro w _; go_simp); try with_reducible rfl)
      (try simp only [List.getElem_toArray, List.getElem_cons_succ, List.getElem_cons_zero, Act.put, List.setIfInBounds_toArray, List.set_cons_zero, List.set_cons_succ])
      refine wpAnyH_take (i := 8) (v := ?_) rfl (by kernel_rfl) (by kernel_rfl) (by kernel_rfl) (fun _ _ _ h => h) (Or.inl ⟨by rfl, ?_⟩) hHeld ?_
      rotate_left
      · ((intro w _; go_simp); try with_reducible rfl)
      (try simp only [List.getElem_toArray, List.getElem_cons_succ, List.getElem_cons_zero, Act.put, List.setIfInBounds_toArray, List.set_cons_zero, List.set_cons_succ])
      refine wpAnyH_ready (rs := [0]) (by kernel_rfl) (by simp) (AllReadyH.cons rfl (fun KQ hKQ => ?_) AllReadyH.nil)
      go_simp
      refine hKQ.out _ _ trivial (fun hH2 => ?_)
      clear hKQ KQ hHeld
      have hHeld := hH2
      clear hH2
      (try simp only [List.getElem_toArray, List.getElem_cons_succ, List.getElem_cons_zero, Act.put, List.setIfInBounds_toArray, List.set_cons_zero, List.set_cons_succ])
      have O0 := ownR0 wj wj.heap.size (Nat.le_refl _)
      have O4 : Hid (OwnR (wj.alloc (.cells #[] 24)).drew wj.heap.size (.slice (some ⟨wj.heap.size, 0, none⟩) 0 0) []) := Lib.hid ⟨row_below O0.1 (brefl _).drew, O0.2⟩
      have B4 : Hid (Below wj.heap.size wj ((wj.alloc (.cells #[] 24)).drew)) := Lib.hid (bstep (balloc (brefl wj) _) (brefl _).drew)
      clear O0
      generalize (wj.alloc (.cells #[] 24)).drew = w4 at *
      have CJ := Lib.hid (CR.out.below BJ.out)
      obtain ⟨vx, w5, ra, oa, ba, _⟩ := appS O4.out (row.take u) ⟨g0, 0, none⟩ c1 (take_cells (CJ.out.below B4.out).cells u) (oneT R1.out.1 u) B4.out.size (by rw [List.length_take, HM.out]; simp; omega) 37
      rw [List.nil_append] at oa
      obtain ⟨xa, xc, rfl⟩ := ownR_form oa
      rw [List.length_take, HM.out, Nat.min_eq_left (by omega)] at ra
      rw [List.length_take, HM.out, Nat.min_eq_left (by omega)] at oa
      have RA := Lib.hid ra
      have B5 : Hid (Below wj.heap.size wj w5) := Lib.hid (B4.out.trans ba)
      obtain ⟨vb, w6, rb, ob, bb, _⟩ := appS oa (row.drop v) ⟨g0, 0 + v * 10, none⟩ (c1 - v) (drop_cells (CJ.out.below B5.out).cells v) (oneD R1.out.1 v) B5.out.size (by rw [List.length_drop, List.length_take, HM.out]; omega) 37
      rw [List.length_drop, HM.out, Nat.zero_add] at rb
      have B6 : Hid (Below wj.heap.size wj w6) := Lib.hid (B5.out.trans bb)
      have FB := own_fl ob (fun x hx => ((SD.out x (by rcases List.mem_append.1 hx with q | q; exact List.mem_of_mem_take q; exact List.mem_of_mem_drop q)).below BJ.out).below B6.out)
      have J2 := (Join_any FB (by rw [List.length_append, List.length_take, List.length_drop, HM.out]; omega))
      have LJ := less_j HOK.out.1 HOK.out.2 (g := g) (k := u) (by rw [← HMN.out]; exact hu)
      rw [HV.out] at LJ
      unfold PJoin at J2
      rw [List.map_append, List.map_take, List.map_drop, HQ.out, LJ.1, LJ.2] at J2
      obtain ⟨ba2, bc2, rfl⟩ := ownR_form ob
      obtain ⟨lq, hlq⟩ : ∃ lq, (row.take u ++ row.drop v).length = lq := ⟨_, rfl⟩
      rw [hlq] at rb J2
      have RB := Lib.hid rb
      have JH := Lib.hid J2
      clear hlq J2 ra oa ba rb ob bb FB LJ
      refine wpAnyH_ready (rs := [4]) (by kernel_rfl) (by simp) (AllReadyH.cons rfl (fun KQ hKQ => ?_) AllReadyH.nil)
      refine step_append_eq rfl (.tmp 103) (.tmp 106) 37 rfl _ _ _ _ rfl rfl RA.out ?_
      refine hKQ.out _ _ trivial (fun hH2 => ?_)
      clear hKQ KQ hHeld
      have hHeld := hH2
      clear hH2
      (try simp only [List.getElem_toArray, List.getElem_cons_succ, List.getElem_cons_zero, Act.put, List.setIfInBounds_toArray, List.set_cons_zero, List.set_cons_succ])
      refine wpAnyH_ready (rs := [9]) (by kernel_rfl) (by simp) (AllReadyH.cons rfl (fun KQ hKQ => ?_) AllReadyH.nil)
      refine step_append_eq rfl (.tmp 107) (.tmp 111) 37 rfl _ _ _ _ rfl rfl RB.out ?_
      refine hKQ.out _ _ trivial (fun hH2 => ?_)
      clear hKQ KQ hHeld
      have hHeld := hH2
      clear hH2
      (try simp only [List.getElem_toArray, List.getElem_cons_succ, List.getElem_cons_zero, Act.put, List.setIfInBounds_toArray, List.set_cons_zero, List.set_cons_succ])
      refine wpAnyH_ready (rs := [10]) (by kernel_rfl) (by simp) (AllReadyH.cons rfl (fun KQ hKQ => ?_) AllReadyH.nil)
      go_simp
      refine JH.out.mono ?_
      rintro e wk' ⟨⟨vl, rfl, ol⟩, hb⟩
      obtain ⟨la, lc, rfl⟩ := own_form ol
      have BK := Lib.hid (bstep (bstep BJ.out B6.out) hb)
      have BJK := Lib.hid (bstep B6.out hb)
      clear ol hb JH
      go_wp2_with fail
      refine hKQ.out _ _ trivial (fun hH2 => ?_)
      clear hKQ KQ hHeld
      have hHeld := hH2
      clear hH2
      (try simp only [List.getElem_toArray, List.getElem_cons_succ, List.getElem_cons_zero, Act.put, List.setIfInBounds_toArray, List.set_cons_zero, List.set_cons_succ])
      refine wpAnyH_take (i := 11) (v := ?_) rfl (by kernel_rfl) (by kernel_rfl) (by kernel_rfl) (fun _ _ _ h => h) (Or.inl ⟨by rfl, ?_⟩) hHeld ?_
      rotate_left
      · ((intro w _; go_simp); try with_reducible rfl)
      (try simp only [List.getElem_toArray, List.getElem_cons_succ, List.getElem_cons_zero, Act.put, List.setIfInBounds_toArray, List.set_cons_zero, List.set_cons_succ])
      refine wpAnyH_take (i := 12) (v := ?_) rfl (by kernel_rfl) (by kernel_rfl) (by kernel_rfl) (fun _ _ _ h => h) (Or.inl ⟨by rfl, ?_⟩) hHeld ?_
      rotate_left
      · ((intro w _; go_simp); try with_reducible rfl)
      (try simp only [List.getElem_toArray, List.getElem_cons_succ, List.getElem_cons_zero, Act.put, List.setIfInBounds_toArray, List.set_cons_zero, List.set_cons_succ])
      refine wpAnyH_take (i := 13) (v := ?_) rfl (by kernel_rfl) (by kernel_rfl) (by kernel_rfl) (fun _ _ _ h => h) (Or.inl ⟨by rfl, ?_⟩) hHeld ?_
      rotate_left
      · ((intro w _; go_simp); try with_reducible rfl)
      (try simp only [List.getElem_toArray, List.getElem_cons_succ, List.getElem_cons_zero, Act.put, List.setIfInBounds_toArray, List.set_cons_zero, List.set_cons_succ])
      refine wpAnyH_take (i := 14) (v := ?_) rfl (by kernel_rfl) (by kernel_rfl) (by kernel_rfl) (fun _ _ _ h => h) (Or.inl ⟨by rfl, ?_⟩) hHeld ?_
      rotate_left
      · ((intro w _; go_simp); try with_reducible rfl)
      (try simp only [List.getElem_toArray, List.getElem_cons_succ, List.getElem_cons_zero, Act.put, List.setIfInBounds_toArray, List.set_cons_zero, List.set_cons_succ])
      refine wpAnyH_take (i := 15) (v := ?_) rfl (by kernel_rfl) (by kernel_rfl) (by kernel_rfl) (fun _ _ _ h => h) (Or.inl ⟨by rfl, ?_⟩) hHeld ?_
      rotate_left
      · ((intro w _; go_simp); try with_reducible rfl)
      (try simp only [List.getElem_toArray, List.getElem_cons_succ, List.getElem_cons_zero, Act.put, List.setIfInBounds_toArray, List.set_cons_zero, List.set_cons_succ])
      refine wpAnyH_done (by kernel_rfl) ?_ _
      clear RA RB O4 B4 B5 B6
      go_wp2_with fail
      go_meet
      exact ⟨rfl, ⟨la, lc, rfl⟩, BK.out, BJK.out⟩
  obtain ⟨rfl, ⟨la, lc, rfl⟩, bk, bjk⟩ := hcut
  rename World => wk
  have BK := Lib.hid bk
  have BJK := Lib.hid bjk
  clear bk bjk
  go_upto_region 19 with fail
  go_cut [18, 19] from 116 to 128 (fun _ ev wr => ev = .int .i64 7 ∧ Below wk.heap.size wk wr)
  case first =>
    have CK := Lib.hid (CR.out.below BK.out)
    obtain ⟨x, hx⟩ : ∃ x, row[u]? = some x := ⟨_, List.getElem?_eq_getElem (by rw [HM.out]; exact hu)⟩
    have xr := List.mem_of_getElem? hx
    obtain ⟨xa, xc, xe⟩ := (SD.out x xr).form
    obtain ⟨xf, xv⟩ := x
    simp only at xe
    subst xe
    have HX := Lib.hid hx
    have XR := Lib.hid xr
    have XP : Hid (xf = pc f n g u) := Lib.hid (by
      have q := congrArg (fun l => l[u]?) HQ.out
      simp only [List.getElem?_map, hx, Option.map_some] at q
      rw [pcs_at (by rw [← HMN.out]; exact hu)] at q
      exact Option.some.inj q)
    have u2 : (u : Int) ≤ (c1 : Int) := by omega
    clear hx xr
    refine wp_region_held_drew (S := fun w' => Below wk.heap.size wk w') (by kernel_rfl) (brefl wk).drew (fun hHeld => ?_)
    refine wpAnyH_take (i := 1) (v := ?_) rfl (by kernel_rfl) (by kernel_rfl) (by kernel_rfl) (fun _ _ _ h => h) (Or.inl ⟨by rfl, ?_⟩) hHeld ?_
    rotate_left
    · ((intro w _; go_simp); try with_reducible rfl)
    (try simp only [List.getElem_toArray, List.getElem_cons_succ, List.getElem_cons_zero, Act.put, List.setIfInBounds_toArray, List.set_cons_zero, List.set_cons_succ])
    refine wpAnyH_take (i := 3) (v := ?_) rfl (by kernel_rfl) (by kernel_rfl) (by kernel_rfl) (fun _ _ _ h => h) (Or.inl ⟨by rfl, ?_⟩) hHeld ?_
    rotate_left
    · ((intro w _; go_simp); try with_reducible rfl)
    (try simp only [List.getElem_toArray, List.getElem_cons_succ, List.getElem_cons_zero, Act.put, List.setIfInBounds_toArray, List.set_cons_zero, List.set_cons_succ])
    refine wpAnyH_take (i := 4) (v := ?_) rfl (by kernel_rfl) (by kernel_rfl) (by kernel_rfl) (fun _ _ _ h => h) (Or.inl ⟨by rfl, ?_⟩) hHeld ?_
    rotate_left
    · ((intro w _; go_simp); try with_reducible rfl)
    (try simp only [List.getElem_toArray, List.getElem_cons_succ, List.getElem_cons_zero, Act.put, List.setIfInBounds_toArray, List.set_cons_zero, List.set_cons_succ])
    refine wpAnyH_take (i := 5) (v := ?_) rfl (by kernel_rfl) (by kernel_rfl) (by kernel_rfl) (fun _ _ _ h => h) (Or.inl ⟨by rfl, ?_⟩) hHeld ?_
    rotate_left
    · ((intro w _; go_simp); try with_reducible rfl)
    (try simp only [List.getElem_toArray, List.getElem_cons_succ, List.getElem_cons_zero, Act.put, List.setIfInBounds_toArray, List.set_cons_zero, List.set_cons_succ])
    refine wpAnyH_take (i := 6) rfl (by kernel_rfl) (by kernel_rfl) (by kernel_rfl) (fun _ _ _ h => h) (yieldsIf_load_mid (by rfl) _ _ rfl _ _ rfl [.int .i64 xf.ver, .bool xf.resp, .bool xf.er, .bool xf.more, .int .i64 xf.op, .int .i64 xf.seq, .int .i64 xf.st, .int .i64 xf.asc, .int .i64 xf.off, .slice xa xf.dat.length xc] _ (fun w h => cr_range (CK.out.below h) HX.out) Try.underlying24 rfl (by exact info_fr)) hHeld ?_
    (try simp only [List.getElem_toArray, List.getElem_cons_succ, List.getElem_cons_zero, Act.put, List.setIfInBounds_toArray, List.set_cons_zero, List.set_cons_succ])
    refine wpAnyH_ready (rs := [0, 7]) (by kernel_rfl) (by simp) (AllReadyH.cons rfl (fun KQ hKQ => ?_) (AllReadyH.cons rfl (fun KQ hKQ => ?_) AllReadyH.nil))
    · go_simp
      have BT : Below wk.heap.size wk ((wk.alloc (.cells #[] 24)).drew) := (balloc (brefl wk) (.cells #[] 24)).drew
      refine hKQ.out _ _ BT (fun hH2 => ?_)
      clear hKQ KQ hHeld
      have hHeld := hH2
      clear hH2
      (try simp only [List.getElem_toArray, List.getElem_cons_succ, List.getElem_cons_zero, Act.put, List.setIfInBounds_toArray, List.set_cons_zero, List.set_cons_succ])
      have Bz1 := Lib.hid BT
      clear BT
      have Oz1 : Hid (OwnR ((wk.alloc (.cells #[] 24)).drew) wk.heap.size (.slice (some ⟨wk.heap.size, 0, none⟩) 0 0) []) := Lib.hid (by
        have O0 := ownR0 wk wk.heap.size (brefl wk).size
        exact ⟨row_below O0.1 (brefl _).drew, O0.2⟩)
      generalize (wk.alloc (.cells #[] 24)).drew = z1 at *
      refine wpAnyH_ready (rs := [2, 7]) (by kernel_rfl) (by simp) (AllReadyH.cons rfl (fun KQ hKQ => ?_) (AllReadyH.cons rfl (fun KQ hKQ => ?_) AllReadyH.nil))
      · obtain ⟨vp, z2, ra, oa, ba, ga⟩ := appS Oz1.out row ⟨g0, 0, none⟩ c1 (by simpa using take_cells (CK.out.below Bz1.out).cells row.length) (by simpa using oneT R1.out.1 row.length) Bz1.out.size (by rw [HM.out]; simp; omega) 37
        rw [List.nil_append] at oa
        obtain ⟨pa, pc, rfl⟩ := ownR_form oa
        rw [HM.out] at ra oa
        have RA := Lib.hid ra
        have Pz2 := Lib.hid oa
        have Bz2 := Lib.hid (Bz1.out.trans ba)
        clear ra oa ba ga
        refine step_append_eq rfl (.tmp 117) (.tmp 118) 37 rfl _ _ _ _ rfl rfl RA.out ?_
        refine hKQ.out _ _ Bz2.out (fun hH2 => ?_)
        clear hKQ KQ hHeld
        have hHeld := hH2
        clear hH2
        (try simp only [List.getElem_toArray, List.getElem_cons_succ, List.getElem_cons_zero, Act.put, List.setIfInBounds_toArray, List.set_cons_zero, List.set_cons_succ])
        clear RA
        refine wpAnyH_ready (rs := [7]) (by kernel_rfl) (by simp) (AllReadyH.cons rfl (fun KQ hKQ => ?_) AllReadyH.nil)
        go_simp
        have BT : Below wk.heap.size wk ((z2.alloc (.cells #[.int .i64 xf.ver, .bool xf.resp, .bool xf.er, .bool xf.more, .int .i64 xf.op, .int .i64 xf.seq, .int .i64 xf.st, .int .i64 xf.asc, .int .i64 xf.off, .slice xa xf.dat.length xc] 24))) := bstep Bz2.out (balloc (brefl z2) (.cells #[.int .i64 xf.ver, .bool xf.resp, .bool xf.er, .bool xf.more, .int .i64 xf.op, .int .i64 xf.seq, .int .i64 xf.st, .int .i64 xf.asc, .int .i64 xf.off, .slice xa xf.dat.length xc] 24))
        refine hKQ.out _ _ BT (fun hH2 => ?_)
        clear hKQ KQ hHeld
        have hHeld := hH2
        clear hH2
        (try simp only [List.getElem_toArray, List.getElem_cons_succ, List.getElem_cons_zero, Act.put, List.setIfInBounds_toArray, List.set_cons_zero, List.set_cons_succ])
        have Bz3 := Lib.hid BT
        clear BT
        have Nz3 : Hid (Blk ((z2.alloc (.cells #[.int .i64 xf.ver, .bool xf.resp, .bool xf.er, .bool xf.more, .int .i64 xf.op, .int .i64 xf.seq, .int .i64 xf.st, .int .i64 xf.asc, .int .i64 xf.off, .slice xa xf.dat.length xc] 24))) z2.heap.size (fvs xf (.slice xa xf.dat.length xc))) := Lib.hid (Blk.new' z2 #[.int .i64 xf.ver, .bool xf.resp, .bool xf.er, .bool xf.more, .int .i64 xf.op, .int .i64 xf.seq, .int .i64 xf.st, .int .i64 xf.asc, .int .i64 xf.off, .slice xa xf.dat.length xc] 24)
        have Pz3 : Hid (OwnR ((z2.alloc (.cells #[.int .i64 xf.ver, .bool xf.resp, .bool xf.er, .bool xf.more, .int .i64 xf.op, .int .i64 xf.seq, .int .i64 xf.st, .int .i64 xf.asc, .int .i64 xf.off, .slice xa xf.dat.length xc] 24))) wk.heap.size (.slice pa m pc) row) := Lib.hid ⟨row_below Pz2.out.1 (balloc (brefl z2) (.cells #[.int .i64 xf.ver, .bool xf.resp, .bool xf.er, .bool xf.more, .int .i64 xf.op, .int .i64 xf.seq, .int .i64 xf.st, .int .i64 xf.asc, .int .i64 xf.off, .slice xa xf.dat.length xc] 24)), Pz2.out.2⟩
        generalize (z2.alloc (.cells #[.int .i64 xf.ver, .bool xf.resp, .bool xf.er, .bool xf.more, .int .i64 xf.op, .int .i64 xf.seq, .int .i64 xf.st, .int .i64 xf.asc, .int .i64 xf.off, .slice xa xf.dat.length xc] 24)) = z3 at *
        refine wpAnyH_ready (rs := [8]) (by kernel_rfl) (by simp) (AllReadyH.cons rfl (fun KQ hKQ => ?_) AllReadyH.nil)
        obtain ⟨vq, z4, ra, oa, ba, ga⟩ := appS Pz3.out [(xf, .slice xa xf.dat.length xc)] ⟨z2.heap.size, 0, none⟩ 1 (fun j z hz => by
          rw [add_plain, Nat.zero_add]
          exact (Nz3.out.2 j z (by simpa [rcs] using hz)).1) (fun z hz => fvs_one xf (.slice xa xf.dat.length xc) rfl z (by simpa [rcs] using hz)) Bz3.out.size (by rw [HM.out]; simp; omega) 37
        rw [List.length_singleton] at ra
        obtain ⟨qa, qc, rfl⟩ := ownR_form oa
        obtain ⟨lq, hlq⟩ : ∃ lq, (row ++ [(xf, Value.slice xa xf.dat.length xc)]).length = lq := ⟨_, rfl⟩
        have Bz4 := Lib.hid (Bz3.out.trans ba)
        have FB := own_fl oa (fun y hy => ((SD.out y (by rcases List.mem_append.1 hy with q | q; exact q; rw [List.mem_singleton.1 q]; exact XR.out)).below BK.out).below (Bz4.out))
        have J3 := Join_any FB (by rw [List.length_append, HM.out]; simp; omega)
        unfold PJoin at J3
        have TJ := twice_j HOK.out.1 HOK.out.2 (g := g) (k := u) (by rw [← HMN.out]; exact hu)
        rw [← XP.out] at TJ
        simp only [List.map_append, HQ.out, List.map_cons, List.map_nil, TJ] at J3
        rw [hlq] at ra J3
        have RA := Lib.hid ra
        have JH := Lib.hid J3
        clear hlq J3 TJ FB ra oa ba ga
        refine step_append_eq rfl (.tmp 119) (.tmp 124) 37 rfl _ _ _ _ rfl rfl RA.out ?_
        refine hKQ.out _ _ Bz4.out (fun hH2 => ?_)
        clear hKQ KQ hHeld
        have hHeld := hH2
        clear hH2
        (try simp only [List.getElem_toArray, List.getElem_cons_succ, List.getElem_cons_zero, Act.put, List.setIfInBounds_toArray, List.set_cons_zero, List.set_cons_succ])
        clear RA
        refine wpAnyH_ready (rs := [9]) (by kernel_rfl) (by simp) (AllReadyH.cons rfl (fun KQ hKQ => ?_) AllReadyH.nil)
        go_simp
        refine JH.out.mono ?_
        rintro e z5 ⟨⟨vl, rfl, _⟩, hb⟩
        have Bz5 := Lib.hid (bstep Bz4.out hb)
        clear hb JH
        go_wp2_with fail
        refine hKQ.out _ _ Bz5.out (fun hH2 => ?_)
        clear hKQ KQ hHeld
        have hHeld := hH2
        clear hH2
        (try simp only [List.getElem_toArray, List.getElem_cons_succ, List.getElem_cons_zero, Act.put, List.setIfInBounds_toArray, List.set_cons_zero, List.set_cons_succ])
        refine wpAnyH_take (i := 10) (v := ?_) rfl (by kernel_rfl) (by kernel_rfl) (by kernel_rfl) (fun _ _ _ h => h) (Or.inl ⟨by rfl, ?_⟩) hHeld ?_
        rotate_left
        · ((intro w _; go_simp); try with_reducible rfl)
        (try simp only [List.getElem_toArray, List.getElem_cons_succ, List.getElem_cons_zero, Act.put, List.setIfInBounds_toArray, List.set_cons_zero, List.set_cons_succ])
        refine wpAnyH_take (i := 11) (v := ?_) rfl (by kernel_rfl) (by kernel_rfl) (by kernel_rfl) (fun _ _ _ h => h) (Or.inl ⟨by rfl, ?_⟩) hHeld ?_
        rotate_left
        · ((intro w _; go_simp); try with_reducible rfl)
        (try simp only [List.getElem_toArray, List.getElem_cons_succ, List.getElem_cons_zero, Act.put, List.setIfInBounds_toArray, List.set_cons_zero, List.set_cons_succ])
        refine wpAnyH_take (i := 12) (v := ?_) rfl (by kernel_rfl) (by kernel_rfl) (by kernel_rfl) (fun _ _ _ h => h) (Or.inl ⟨by rfl, ?_⟩) hHeld ?_
        rotate_left
        · ((intro w _; go_simp); try with_reducible rfl)
        (try simp only [List.getElem_toArray, List.getElem_cons_succ, List.getElem_cons_zero, Act.put, List.setIfInBounds_toArray, List.set_cons_zero, List.set_cons_succ])
        refine wpAnyH_take (i := 13) (v := ?_) rfl (by kernel_rfl) (by kernel_rfl) (by kernel_rfl) (fun _ _ _ h => h) (Or.inl ⟨by rfl, ?_⟩) hHeld ?_
        rotate_left
        · ((intro w _; go_simp); try with_reducible rfl)
        (try simp only [List.getElem_toArray, List.getElem_cons_succ, List.getElem_cons_zero, Act.put, List.setIfInBounds_toArray, List.set_cons_zero, List.set_cons_succ])
        refine wpAnyH_take (i := 14) (v := ?_) rfl (by kernel_rfl) (by kernel_rfl) (by kernel_rfl) (fun _ _ _ h => h) (Or.inl ⟨by rfl, ?_⟩) hHeld ?_
        rotate_left
        · ((intro w _; go_simp); try with_reducible rfl)
        (try simp only [List.getElem_toArray, List.getElem_cons_succ, List.getElem_cons_zero, Act.put, List.setIfInBounds_toArray, List.set_cons_zero, List.set_cons_succ])
        refine wpAnyH_done (by kernel_rfl) ?_ _
        go_wp2_with fail
        go_meet
        exact ⟨rfl, Bz5.out⟩
      · go_simp
        have BT : Below wk.heap.size wk ((z1.alloc (.cells #[.int .i64 xf.ver, .bool xf.resp, .bool xf.er, .bool xf.more, .int .i64 xf.op, .int .i64 xf.seq, .int .i64 xf.st, .int .i64 xf.asc, .int .i64 xf.off, .slice xa xf.dat.length xc] 24))) := bstep Bz1.out (balloc (brefl z1) (.cells #[.int .i64 xf.ver, .bool xf.resp, .bool xf.er, .bool xf.more, .int .i64 xf.op, .int .i64 xf.seq, .int .i64 xf.st, .int .i64 xf.asc, .int .i64 xf.off, .slice xa xf.dat.length xc] 24))
        refine hKQ.out _ _ BT (fun hH2 => ?_)
        clear hKQ KQ hHeld
        have hHeld := hH2
        clear hH2
        (try simp only [List.getElem_toArray, List.getElem_cons_succ, List.getElem_cons_zero, Act.put, List.setIfInBounds_toArray, List.set_cons_zero, List.set_cons_succ])
        have Bz2 := Lib.hid BT
        clear BT
        have Nz2 : Hid (Blk ((z1.alloc (.cells #[.int .i64 xf.ver, .bool xf.resp, .bool xf.er, .bool xf.more, .int .i64 xf.op, .int .i64 xf.seq, .int .i64 xf.st, .int .i64 xf.asc, .int .i64 xf.off, .slice xa xf.dat.length xc] 24))) z1.heap.size (fvs xf (.slice xa xf.dat.length xc))) := Lib.hid (Blk.new' z1 #[.int .i64 xf.ver, .bool xf.resp, .bool xf.er, .bool xf.more, .int .i64 xf.op, .int .i64 xf.seq, .int .i64 xf.st, .int .i64 xf.asc, .int .i64 xf.off, .slice xa xf.dat.length xc] 24)
        have Oz2 : Hid (OwnR ((z1.alloc (.cells #[.int .i64 xf.ver, .bool xf.resp, .bool xf.er, .bool xf.more, .int .i64 xf.op, .int .i64 xf.seq, .int .i64 xf.st, .int .i64 xf.asc, .int .i64 xf.off, .slice xa xf.dat.length xc] 24))) wk.heap.size (.slice (some ⟨wk.heap.size, 0, none⟩) 0 0) []) := Lib.hid ⟨row_below Oz1.out.1 (balloc (brefl z1) (.cells #[.int .i64 xf.ver, .bool xf.resp, .bool xf.er, .bool xf.more, .int .i64 xf.op, .int .i64 xf.seq, .int .i64 xf.st, .int .i64 xf.asc, .int .i64 xf.off, .slice xa xf.dat.length xc] 24)), Oz1.out.2⟩
        have Ez2 : Hid (z1.heap.size ≠ wk.heap.size) := Lib.hid (fun q => by have := (Oz1.out.1.lt (wk.heap.size) rfl).2; omega)
        generalize (z1.alloc (.cells #[.int .i64 xf.ver, .bool xf.resp, .bool xf.er, .bool xf.more, .int .i64 xf.op, .int .i64 xf.seq, .int .i64 xf.st, .int .i64 xf.asc, .int .i64 xf.off, .slice xa xf.dat.length xc] 24)) = z2 at *
        refine wpAnyH_ready (rs := [2]) (by kernel_rfl) (by simp) (AllReadyH.cons rfl (fun KQ hKQ => ?_) AllReadyH.nil)
        obtain ⟨vp, z3, ra, oa, ba, ga⟩ := appS Oz2.out row ⟨g0, 0, none⟩ c1 (by simpa using take_cells (CK.out.below Bz2.out).cells row.length) (by simpa using oneT R1.out.1 row.length) Bz2.out.size (by rw [HM.out]; simp; omega) 37
        rw [List.nil_append] at oa
        obtain ⟨pa, pc, rfl⟩ := ownR_form oa
        rw [HM.out] at ra oa
        have RA := Lib.hid ra
        have Pz3 := Lib.hid oa
        have Bz3 := Lib.hid (Bz2.out.trans ba)
        have Nz3 := Lib.hid (ga.blk Nz2.out (by simpa [Value.ownBlock] using Ez2.out.symm))
        clear ra oa ba ga
        refine step_append_eq rfl (.tmp 117) (.tmp 118) 37 rfl _ _ _ _ rfl rfl RA.out ?_
        refine hKQ.out _ _ Bz3.out (fun hH2 => ?_)
        clear hKQ KQ hHeld
        have hHeld := hH2
        clear hH2
        (try simp only [List.getElem_toArray, List.getElem_cons_succ, List.getElem_cons_zero, Act.put, List.setIfInBounds_toArray, List.set_cons_zero, List.set_cons_succ])
        clear RA
        refine wpAnyH_ready (rs := [8]) (by kernel_rfl) (by simp) (AllReadyH.cons rfl (fun KQ hKQ => ?_) AllReadyH.nil)
        obtain ⟨vq, z4, ra, oa, ba, ga⟩ := appS Pz3.out [(xf, .slice xa xf.dat.length xc)] ⟨z1.heap.size, 0, none⟩ 1 (fun j z hz => by
          rw [add_plain, Nat.zero_add]
          exact (Nz3.out.2 j z (by simpa [rcs] using hz)).1) (fun z hz => fvs_one xf (.slice xa xf.dat.length xc) rfl z (by simpa [rcs] using hz)) Bz3.out.size (by rw [HM.out]; simp; omega) 37
        rw [List.length_singleton] at ra
        obtain ⟨qa, qc, rfl⟩ := ownR_form oa
        obtain ⟨lq, hlq⟩ : ∃ lq, (row ++ [(xf, Value.slice xa xf.dat.length xc)]).length = lq := ⟨_, rfl⟩
        have Bz4 := Lib.hid (Bz3.out.trans ba)
        have FB := own_fl oa (fun y hy => ((SD.out y (by rcases List.mem_append.1 hy with q | q; exact q; rw [List.mem_singleton.1 q]; exact XR.out)).below BK.out).below (Bz4.out))
        have J3 := Join_any FB (by rw [List.length_append, HM.out]; simp; omega)
        unfold PJoin at J3
        have TJ := twice_j HOK.out.1 HOK.out.2 (g := g) (k := u) (by rw [← HMN.out]; exact hu)
        rw [← XP.out] at TJ
        simp only [List.map_append, HQ.out, List.map_cons, List.map_nil, TJ] at J3
        rw [hlq] at ra J3
        have RA := Lib.hid ra
        have JH := Lib.hid J3
        clear hlq J3 TJ FB ra oa ba ga
        refine step_append_eq rfl (.tmp 119) (.tmp 124) 37 rfl _ _ _ _ rfl rfl RA.out ?_
        refine hKQ.out _ _ Bz4.out (fun hH2 => ?_)
        clear hKQ KQ hHeld
        have hHeld := hH2
        clear hH2
        (try simp only [List.getElem_toArray, List.getElem_cons_succ, List.getElem_cons_zero, Act.put, List.setIfInBounds_toArray, List.set_cons_zero, List.set_cons_succ])
        clear RA
        refine wpAnyH_ready (rs := [9]) (by kernel_rfl) (by simp) (AllReadyH.cons rfl (fun KQ hKQ => ?_) AllReadyH.nil)
        go_simp
        refine JH.out.mono ?_
        rintro e z5 ⟨⟨vl, rfl, _⟩, hb⟩
        have Bz5 := Lib.hid (bstep Bz4.out hb)
        clear hb JH
        go_wp2_with fail
        refine hKQ.out _ _ Bz5.out (fun hH2 => ?_)
        clear hKQ KQ hHeld
        have hHeld := hH2
        clear hH2
        (try simp only [List.getElem_toArray, List.getElem_cons_succ, List.getElem_cons_zero, Act.put, List.setIfInBounds_toArray, List.set_cons_zero, List.set_cons_succ])
        refine wpAnyH_take (i := 10) (v := ?_) rfl (by kernel_rfl) (by kernel_rfl) (by kernel_rfl) (fun _ _ _ h => h) (Or.inl ⟨by rfl, ?_⟩) hHeld ?_
        rotate_left
        · ((intro w _; go_simp); try with_reducible rfl)
        (try simp only [List.getElem_toArray, List.getElem_cons_succ, List.getElem_cons_zero, Act.put, List.setIfInBounds_toArray, List.set_cons_zero, List.set_cons_succ])
        refine wpAnyH_take (i := 11) (v := ?_) rfl (by kernel_rfl) (by kernel_rfl) (by kernel_rfl) (fun _ _ _ h => h) (Or.inl ⟨by rfl, ?_⟩) hHeld ?_
        rotate_left
        · ((intro w _; go_simp); try with_reducible rfl)
        (try simp only [List.getElem_toArray, List.getElem_cons_succ, List.getElem_cons_zero, Act.put, List.setIfInBounds_toArray, List.set_cons_zero, List.set_cons_succ])
        refine wpAnyH_take (i := 12) (v := ?_) rfl (by kernel_rfl) (by kernel_rfl) (by kernel_rfl) (fun _ _ _ h => h) (Or.inl ⟨by rfl, ?_⟩) hHeld ?_
        rotate_left
        · ((intro w _; go_simp); try with_reducible rfl)
        (try simp only [List.getElem_toArray, List.getElem_cons_succ, List.getElem_cons_zero, Act.put, List.setIfInBounds_toArray, List.set_cons_zero, List.set_cons_succ])
        refine wpAnyH_take (i := 13) (v := ?_) rfl (by kernel_rfl) (by kernel_rfl) (by kernel_rfl) (fun _ _ _ h => h) (Or.inl ⟨by rfl, ?_⟩) hHeld ?_
        rotate_left
        · ((intro w _; go_simp); try with_reducible rfl)
        (try simp only [List.getElem_toArray, List.getElem_cons_succ, List.getElem_cons_zero, Act.put, List.setIfInBounds_toArray, List.set_cons_zero, List.set_cons_succ])
        refine wpAnyH_take (i := 14) (v := ?_) rfl (by kernel_rfl) (by kernel_rfl) (by kernel_rfl) (fun _ _ _ h => h) (Or.inl ⟨by rfl, ?_⟩) hHeld ?_
        rotate_left
        · ((intro w _; go_simp); try with_reducible rfl)
        (try simp only [List.getElem_toArray, List.getElem_cons_succ, List.getElem_cons_zero, Act.put, List.setIfInBounds_toArray, List.set_cons_zero, List.set_cons_succ])
        refine wpAnyH_done (by kernel_rfl) ?_ _
        go_wp2_with fail
        go_meet
        exact ⟨rfl, Bz5.out⟩
    · go_simp
      have BT : Below wk.heap.size wk ((wk.alloc (.cells #[.int .i64 xf.ver, .bool xf.resp, .bool xf.er, .bool xf.more, .int .i64 xf.op, .int .i64 xf.seq, .int .i64 xf.st, .int .i64 xf.asc, .int .i64 xf.off, .slice xa xf.dat.length xc] 24)).drew) := (balloc (brefl wk) (.cells #[.int .i64 xf.ver, .bool xf.resp, .bool xf.er, .bool xf.more, .int .i64 xf.op, .int .i64 xf.seq, .int .i64 xf.st, .int .i64 xf.asc, .int .i64 xf.off, .slice xa xf.dat.length xc] 24)).drew
      refine hKQ.out _ _ BT (fun hH2 => ?_)
      clear hKQ KQ hHeld
      have hHeld := hH2
      clear hH2
      (try simp only [List.getElem_toArray, List.getElem_cons_succ, List.getElem_cons_zero, Act.put, List.setIfInBounds_toArray, List.set_cons_zero, List.set_cons_succ])
      have Bz1 := Lib.hid BT
      clear BT
      have Nz1 : Hid (Blk ((wk.alloc (.cells #[.int .i64 xf.ver, .bool xf.resp, .bool xf.er, .bool xf.more, .int .i64 xf.op, .int .i64 xf.seq, .int .i64 xf.st, .int .i64 xf.asc, .int .i64 xf.off, .slice xa xf.dat.length xc] 24)).drew) wk.heap.size (fvs xf (.slice xa xf.dat.length xc))) := Lib.hid ((Blk.new' wk #[.int .i64 xf.ver, .bool xf.resp, .bool xf.er, .bool xf.more, .int .i64 xf.op, .int .i64 xf.seq, .int .i64 xf.st, .int .i64 xf.asc, .int .i64 xf.off, .slice xa xf.dat.length xc] 24).below (brefl _).drew)
      generalize (wk.alloc (.cells #[.int .i64 xf.ver, .bool xf.resp, .bool xf.er, .bool xf.more, .int .i64 xf.op, .int .i64 xf.seq, .int .i64 xf.st, .int .i64 xf.asc, .int .i64 xf.off, .slice xa xf.dat.length xc] 24)).drew = z1 at *
      refine wpAnyH_ready (rs := [0]) (by kernel_rfl) (by simp) (AllReadyH.cons rfl (fun KQ hKQ => ?_) AllReadyH.nil)
      go_simp
      have BT : Below wk.heap.size wk ((z1.alloc (.cells #[] 24))) := bstep Bz1.out (balloc (brefl z1) (.cells #[] 24))
      refine hKQ.out _ _ BT (fun hH2 => ?_)
      clear hKQ KQ hHeld
      have hHeld := hH2
      clear hH2
      (try simp only [List.getElem_toArray, List.getElem_cons_succ, List.getElem_cons_zero, Act.put, List.setIfInBounds_toArray, List.set_cons_zero, List.set_cons_succ])
      have Bz2 := Lib.hid BT
      clear BT
      have Oz2 : Hid (OwnR ((z1.alloc (.cells #[] 24))) wk.heap.size (.slice (some ⟨z1.heap.size, 0, none⟩) 0 0) []) := Lib.hid (by
        have O0 := ownR0 z1 wk.heap.size Bz1.out.size
        exact O0)
      have Nz2 := Lib.hid (Nz1.out.below (balloc (brefl z1) (.cells #[] 24)))
      have Ez2 : Hid (wk.heap.size ≠ z1.heap.size) := Lib.hid (fun q => by have := Nz1.out.1; omega)
      generalize (z1.alloc (.cells #[] 24)) = z2 at *
      refine wpAnyH_ready (rs := [2]) (by kernel_rfl) (by simp) (AllReadyH.cons rfl (fun KQ hKQ => ?_) AllReadyH.nil)
      obtain ⟨vp, z3, ra, oa, ba, ga⟩ := appS Oz2.out row ⟨g0, 0, none⟩ c1 (by simpa using take_cells (CK.out.below Bz2.out).cells row.length) (by simpa using oneT R1.out.1 row.length) Bz2.out.size (by rw [HM.out]; simp; omega) 37
      rw [List.nil_append] at oa
      obtain ⟨pa, pc, rfl⟩ := ownR_form oa
      rw [HM.out] at ra oa
      have RA := Lib.hid ra
      have Pz3 := Lib.hid oa
      have Bz3 := Lib.hid (Bz2.out.trans ba)
      have Nz3 := Lib.hid (ga.blk Nz2.out (by simpa [Value.ownBlock] using Ez2.out.symm))
      clear ra oa ba ga
      refine step_append_eq rfl (.tmp 117) (.tmp 118) 37 rfl _ _ _ _ rfl rfl RA.out ?_
      refine hKQ.out _ _ Bz3.out (fun hH2 => ?_)
      clear hKQ KQ hHeld
      have hHeld := hH2
      clear hH2
      (try simp only [List.getElem_toArray, List.getElem_cons_succ, List.getElem_cons_zero, Act.put, List.setIfInBounds_toArray, List.set_cons_zero, List.set_cons_succ])
      clear RA
      refine wpAnyH_ready (rs := [8]) (by kernel_rfl) (by simp) (AllReadyH.cons rfl (fun KQ hKQ => ?_) AllReadyH.nil)
      obtain ⟨vq, z4, ra, oa, ba, ga⟩ := appS Pz3.out [(xf, .slice xa xf.dat.length xc)] ⟨wk.heap.size, 0, none⟩ 1 (fun j z hz => by
        rw [add_plain, Nat.zero_add]
        exact (Nz3.out.2 j z (by simpa [rcs] using hz)).1) (fun z hz => fvs_one xf (.slice xa xf.dat.length xc) rfl z (by simpa [rcs] using hz)) Bz3.out.size (by rw [HM.out]; simp; omega) 37
      rw [List.length_singleton] at ra
      obtain ⟨qa, qc, rfl⟩ := ownR_form oa
      obtain ⟨lq, hlq⟩ : ∃ lq, (row ++ [(xf, Value.slice xa xf.dat.length xc)]).length = lq := ⟨_, rfl⟩
      have Bz4 := Lib.hid (Bz3.out.trans ba)
      have FB := own_fl oa (fun y hy => ((SD.out y (by rcases List.mem_append.1 hy with q | q; exact q; rw [List.mem_singleton.1 q]; exact XR.out)).below BK.out).below (Bz4.out))
      have J3 := Join_any FB (by rw [List.length_append, HM.out]; simp; omega)
      unfold PJoin at J3
      have TJ := twice_j HOK.out.1 HOK.out.2 (g := g) (k := u) (by rw [← HMN.out]; exact hu)
      rw [← XP.out] at TJ
      simp only [List.map_append, HQ.out, List.map_cons, List.map_nil, TJ] at J3
      rw [hlq] at ra J3
      have RA := Lib.hid ra
      have JH := Lib.hid J3
      clear hlq J3 TJ FB ra oa ba ga
      refine step_append_eq rfl (.tmp 119) (.tmp 124) 37 rfl _ _ _ _ rfl rfl RA.out ?_
      refine hKQ.out _ _ Bz4.out (fun hH2 => ?_)
      clear hKQ KQ hHeld
      have hHeld := hH2
      clear hH2
      (try simp only [List.getElem_toArray, List.getElem_cons_succ, List.getElem_cons_zero, Act.put, List.setIfInBounds_toArray, List.set_cons_zero, List.set_cons_succ])
      clear RA
      refine wpAnyH_ready (rs := [9]) (by kernel_rfl) (by simp) (AllReadyH.cons rfl (fun KQ hKQ => ?_) AllReadyH.nil)
      go_simp
      refine JH.out.mono ?_
      rintro e z5 ⟨⟨vl, rfl, _⟩, hb⟩
      have Bz5 := Lib.hid (bstep Bz4.out hb)
      clear hb JH
      go_wp2_with fail
      refine hKQ.out _ _ Bz5.out (fun hH2 => ?_)
      clear hKQ KQ hHeld
      have hHeld := hH2
      clear hH2
      (try simp only [List.getElem_toArray, List.getElem_cons_succ, List.getElem_cons_zero, Act.put, List.setIfInBounds_toArray, List.set_cons_zero, List.set_cons_succ])
      refine wpAnyH_take (i := 10) (v := ?_) rfl (by kernel_rfl) (by kernel_rfl) (by kernel_rfl) (fun _ _ _ h => h) (Or.inl ⟨by rfl, ?_⟩) hHeld ?_
      rotate_left
      · ((intro w _; go_simp); try with_reducible rfl)
      (try simp only [List.getElem_toArray, List.getElem_cons_succ, List.getElem_cons_zero, Act.put, List.setIfInBounds_toArray, List.set_cons_zero, List.set_cons_succ])
      refine wpAnyH_take (i := 11) (v := ?_) rfl (by kernel_rfl) (by kernel_rfl) (by kernel_rfl) (fun _ _ _ h => h) (Or.inl ⟨by rfl, ?_⟩) hHeld ?_
      rotate_left
      · ((intro w _; go_simp); try with_reducible rfl)
      (try simp only [List.getElem_toArray, List.getElem_cons_succ, List.getElem_cons_zero, Act.put, List.setIfInBounds_toArray, List.set_cons_zero, List.set_cons_succ])
      refine wpAnyH_take (i := 12) (v := ?_) rfl (by kernel_rfl) (by kernel_rfl) (by kernel_rfl) (fun _ _ _ h => h) (Or.inl ⟨by rfl, ?_⟩) hHeld ?_
      rotate_left
      · ((intro w _; go_simp); try with_reducible rfl)
      (try simp only [List.getElem_toArray, List.getElem_cons_succ, List.getElem_cons_zero, Act.put, List.setIfInBounds_toArray, List.set_cons_zero, List.set_cons_succ])
      refine wpAnyH_take (i := 13) (v := ?_) rfl (by kernel_rfl) (by kernel_rfl) (by kernel_rfl) (fun _ _ _ h => h) (Or.inl ⟨by rfl, ?_⟩) hHeld ?_
      rotate_left
      · ((intro w _; go_simp); try with_reducible rfl)
      (try simp only [List.getElem_toArray, List.getElem_cons_succ, List.getElem_cons_zero, Act.put, List.setIfInBounds_toArray, List.set_cons_zero, List.set_cons_succ])
      refine wpAnyH_take (i := 14) (v := ?_) rfl (by kernel_rfl) (by kernel_rfl) (by kernel_rfl) (fun _ _ _ h => h) (Or.inl ⟨by rfl, ?_⟩) hHeld ?_
      rotate_left
      · ((intro w _; go_simp); try with_reducible rfl)
      (try simp only [List.getElem_toArray, List.getElem_cons_succ, List.getElem_cons_zero, Act.put, List.setIfInBounds_toArray, List.set_cons_zero, List.set_cons_succ])
      refine wpAnyH_done (by kernel_rfl) ?_ _
      go_wp2_with fail
      go_meet
      exact ⟨rfl, Bz5.out⟩
  obtain ⟨rfl, bl'⟩ := hcut
  rename World => wl
  have BL := Lib.hid bl'
  clear bl'
  have BL3 := Lib.hid (bstep BK.out BL.out)
  have BLJ := Lib.hid (bstep BJK.out BL.out)
  clear BK BJK BL
  have n6 := HOK.out.2
  have n7 : (n : Int) ≤ 65535 := by omega
  have PX : Hid (∀ k, k < m → ∃ a c, row[k]? = some (pc f n g k, .slice a (min (468 * k + 468) n - 468 * k) c)) := Lib.hid (fun k hk => by
    obtain ⟨x, hx⟩ : ∃ x, row[k]? = some x := ⟨_, List.getElem?_eq_getElem (by rw [HM.out]; exact hk)⟩
    obtain ⟨xa, xc, xe⟩ := (SD.out x (List.mem_of_getElem? hx)).form
    have q := congrArg (fun l => l[k]?) HQ.out
    simp only [List.getElem?_map, hx, Option.map_some] at q
    rw [pcs_at (by rw [← HMN.out]; exact hk)] at q
    have e := Option.some.inj q
    obtain ⟨xf, xv⟩ := x
    simp only at e xe
    subst e xe
    refine ⟨xa, xc, ?_⟩
    rw [hx]
    have hl : (pc f n g k).dat.length = min (468 * k + 468) n - 468 * k := by show (bl _ _).length = _; rw [bl_len]
    rw [hl])
  go_wp2_with fail
  go_loopw [20, 21] (fun sv iv wr => ∃ k : Nat, k ≤ m ∧ iv = .int .i64 k ∧ sv = .int .i64 ((min (468 * k) n : Nat) : Int) ∧ Below w3.heap.size w3 wr ∧ Below wj.heap.size wj wr) (fun _ iv _ => m - (intOf iv).toNat)
  case atStart => exact ⟨0, Nat.zero_le _, rfl, by rw [Nat.mul_zero, Nat.zero_min]; rfl, BL3.out, BLJ.out⟩
  case round =>
    obtain ⟨k, hk, rfl, rfl, hb3, hbj⟩ := hrel
    rename World => wr
    have BR := Lib.hid hb3
    have BRJ := Lib.hid hbj
    clear hb3 hbj BL3 BLJ
    obtain ⟨s, hs⟩ : ∃ s, min (468 * k) n = s := ⟨_, rfl⟩
    rw [hs]
    have s1 : (0 : Int) ≤ (s : Int) := by omega
    have s2 : (s : Int) ≤ 65535 := by omega
    have mn := HMN.out
    by_cases c : k < m
    · have e1 : decide ((k : Int) < (m : Int)) = true := decide_eq_true (by omega)
      have kk := npc_iff.1 (by rw [← mn]; exact c : k < npc n)
      have ks : 468 * k = s := by rcases kk with q | q <;> omega
      obtain ⟨xa, xc, hx⟩ := PX.out k c
      have CW := CR.out.below BR.out
      have c8 : wr.cell? ⟨g0, k * 10 + 8, none⟩ = some (.int .i64 (s : Int)) := by
        rw [(CW.2 k _ hx 8 (by omega)).1, ← ks]
        rfl
      obtain ⟨mo, hmo⟩ : ∃ mo, decide (468 * k + 468 < n) = mo := ⟨_, rfl⟩
      have c3 : wr.cell? ⟨g0, k * 10 + 3, none⟩ = some (.bool mo) := by
        rw [(CW.2 k _ hx 3 (by omega)).1, ← hmo]
        rfl
      have eM : decide ((k : Int) < (m : Int) - 1) = mo := by
        rw [← hmo]
        refine decide_eq_decide.2 ?_
        have := npc_succ (n := n) (i := k)
        rw [← mn] at this
        omega
      have eN : (mo != mo) = false := by cases mo <;> rfl
      have c9 : wr.cell? ⟨g0, k * 10 + 9, none⟩ = some (.slice xa (min (468 * k + 468) n - 468 * k) xc) := (CW.2 k _ hx 9 (by omega)).1
      obtain ⟨dl, hdl⟩ : ∃ dl, min (468 * k + 468) n - 468 * k = dl := ⟨_, rfl⟩
      rw [hdl] at c9
      have d0 : (0 : Int) ≤ (dl : Int) := by omega
      have d1 : (dl : Int) ≤ 468 := by omega
      have e3 : decide ((dl : Int) > 468) = false := decide_eq_false (by omega)
      have e4 : decide ((468 : Int) < (dl : Int)) = false := decide_eq_false (by omega)
      have k8 : (k : Int) < (m : Int) := by omega
      have k0 : (0 : Int) ≤ (k : Int) := by omega
      have sd : s + dl = min (468 * (k + 1)) n := by rcases kk with q | q <;> omega
      clear CW hx hmo hdl kk ks mn
      go_wp2_with fail
      go_roundw
      case rel => exact ⟨k + 1, by omega, by go_num, by rw [← sd]; go_num, BR.out, BRJ.out⟩
      case measure => simp [intOf]; omega
    · have e1 : decide ((k : Int) < (m : Int)) = false := decide_eq_false (by omega)
      have sn : s = n := by
        have h := npc_iff (n := n) (i := k)
        have h2 : ¬ k < npc n := by rw [← mn]; exact c
        by_cases q : 468 * k < n
        · exact absurd (h.2 (.inr q)) h2
        · omega
      subst sn
      have CA := own_str OA.out (bl_byte fun i _ => HG.out i) BRJ.out
      have CS := HS.out.conv (bstep B3.out BR.out)
      generalize bs8 (bl g s) = SB at *
      go_wp2_with fail
      go_ret
      exact ⟨rfl, bstep B3.out BR.out⟩
set_option maxRecDepth 100000 in
theorem lifted (os : Os) (started : os.Started) (H : Type) (enc : TypeId × Value → H) :
    ReturnsInHanded {} Try.checked os 6 .any (Rows.ctlJoinsSpec.pre6 enc Try.prog Try.f6 Rows.ctlJoinsRow.domain false) (Rows.ctlJoinsSpec.post enc Try.prog Try.f6 false true false false) := by
  refine returnsInHanded_of_change_sized (C := Try.checked) own started (by kernel_rfl) Try.func6
    (ChangeSpec.witness6 (enc := enc) (C := Try.checked) false ⟨#[], #[.agg #[.int .i64 0, .bool false, .bool false, .bool false, .int .i64 0, .int .i64 0, .int .i64 0, .int .i64 0, .int .i64 0, .slice none 0 0], .slice none 0 0, .int .i64 0, .int .i64 0], []⟩ 8 (by kernel_rfl) (by kernel_rfl) (by kernel_rfl) (by kernel_rfl)) ?_
  intro W base args ds gs before hval0 hW hcnd hsz0 _
  have hsz : (DataW.weightsEach Try.prog (Try.f6.params.toList ++ Rows.ctlJoinsSpec.plain.varTypes Try.prog) (ds ++ gs)).all (· ≤ reachBytes) = true := hsz0
  have hval : ∀ (j : Nat) t v, Try.f6.params[j]? = some t → args[j]? = some v → Value.okWide Try.prog W .any base t v := hval0
  have hW' := hW
  obtain ⟨p, q, hA0, hV, rfl, hfz, hnd⟩ := hW
  have hA : DataW.TrodAll enc Try.prog W 0 (fun _ => true) true Try.f6.params.toList args.toList ds p := hA0
  rw [Try.params6] at hA hval hsz
  obtain ⟨v0, vs0, d0, ds0, p0, q0, hargs, rfl, rfl, h0, r0⟩ := trodAll_cons hA
  obtain ⟨v1, vs1, d1, ds1, p1, q1, rfl, rfl, rfl, h1, r1⟩ := trodAll_cons r0
  obtain ⟨v2, vs2, d2, ds2, p2, q2, rfl, rfl, rfl, h2, r2⟩ := trodAll_cons r1
  obtain ⟨v3, vs3, d3, ds3, p3, q3, rfl, rfl, rfl, h3, r3⟩ := trodAll_cons r2
  obtain ⟨rfl, rfl, rfl⟩ := trodAll_nil r3
  obtain rfl : args = #[v0, v1, v2, v3] := by cases args; simp_all
  obtain ⟨rfl, rfl⟩ := trodVars_none hV
  have h0k := h0
  have hlt0 : ∀ x ∈ p0, x.block < W.heap.size := fun x hx => by have := hW'.lt x (by simp [hx]); simpa using this
  have hb0 : ∀ y ∈ DataW.weights Try.prog 24 d0, y ≤ reachBytes := fun y hy => by
    have := List.all_eq_true.1 hsz y (DataW.weights_mem_each (j := 0) rfl rfl y hy)
    simpa using this
  have h1k := h1
  have hlt1 : ∀ x ∈ p1, x.block < W.heap.size := fun x hx => by have := hW'.lt x (by simp [hx]); simpa using this
  have hb1 : ∀ es sp, d1 = .slice es sp → (es.length + sp.length) * Try.prog.bytesOf 5 ≤ reachBytes := by
    intro es sp he
    exact sized_slice hsz (j := 1) (t := 22) (e := 5) rfl (by rw [he]; rfl) Try.underlying22
  have h2k := h2
  have hlt2 : ∀ x ∈ p2, x.block < W.heap.size := fun x hx => by have := hW'.lt x (by simp [hx]); simpa using this
  have h3k := h3
  have hlt3 : ∀ x ∈ p3, x.block < W.heap.size := fun x hx => by have := hW'.lt x (by simp [hx]); simpa using this
  obtain ⟨f0, dv0, rfl, g0⟩ := open_fr (hval 0 24 v0 rfl rfl) h0 hb0
  obtain ⟨n1, f1, g1⟩ := open_bytes (hval 1 22 v1 rfl rfl) h1 hb1
  obtain ⟨z2, rfl, _, _, g2⟩ := open_int Try.underlying3 (hval 2 3 v2 rfl rfl) h2
  obtain ⟨z3, rfl, _, _, g3⟩ := open_int Try.underlying3 (hval 3 3 v3 rfl rfl) h3
  clear hA0 hval0
  simp only [List.append_nil] at hW'
  refine (walk f0 dv0 v1 n1 f1 z2 z3 W g0 g1 g2 g3).mono fun e W' ⟨he, hg⟩ => ?_
  subst he
  exact ⟨_, rfl, _, _, _, [], _, [], hW', trodAll_cons_mk (shut_bool Try.underlying4 _) trodAll_mk0,
    (trodAll_cons_mk (Below.trod laidOut (by kernel_rfl) (of_decide_eq_true (by kernel_rfl)) h0k hg hlt0) (trodAll_cons_mk (Below.trod laidOut (by kernel_rfl) (of_decide_eq_true (by kernel_rfl)) h1k hg hlt1) (trodAll_cons_mk (Below.trod laidOut (by kernel_rfl) (of_decide_eq_true (by kernel_rfl)) h2k hg hlt2) (trodAll_cons_mk (Below.trod laidOut (by kernel_rfl) (of_decide_eq_true (by kernel_rfl)) h3k hg hlt3) trodAll_mk0)))), rfl, hg.frame _, fun h => nomatch h⟩

theorem over : Rows.ctlJoinsRow.holds Try.pinned (OpenSpec.ofChange Rows.ctlJoinsSpec) :=
  OpenClaim.holds_of_wide 6 Try.f6 rfl rfl rfl rfl rfl rfl rfl ⟨rfl, rfl, rfl, rfl, rfl⟩ rfl rfl rfl rfl rfl (by kernel_rfl) Try.func6 (by kernel_rfl)
    (of_decide_eq_true (by kernel_rfl)) (by unfold Func.isWrapper; first | (rw [if_pos (by decide +kernel)]; kernel_rfl) | (rw [if_neg (by decide +kernel)]; exact ⟨rfl, rfl⟩))
    (fun os started H enc _ => lifted os started H enc)

theorem proved : Rows.CtlJoinsSaid :=
  over
end Go.Proofs.Yteigmnbbfmcihaa.ctlJoins
