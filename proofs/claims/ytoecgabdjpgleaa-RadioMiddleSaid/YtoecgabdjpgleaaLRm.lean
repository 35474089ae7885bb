/-
  RadioMiddle: The middle lies among the readings, does not hang on their order, and is near the truth as long as most of them are. The law returns true for every input, and the input reads as it did.
  Conditions: none.
-/
import Derived.Test.YtoecgabdjpgleaaRows
import Derived.Test.YtoecgabdjpgleaaRdG
import Derived.ChangeMaps5
import Derived.Carry
import Derived.Lib.SmallJoins
import Derived.Deep.RegionHeld3
import Derived.SizedLaws
namespace Go.Proofs.Ytoecgabdjpgleaa.radioMiddle
open Go.ChangeShapes Go.WideShapes Go.ChangeAt Go.RowKit Go.Joins Cv Lp Rd
set_option linter.unusedVariables false
set_option linter.unusedSimpArgs false

theorem own : ownKnob Try.prog.godebug = none := by kernel_rfl
theorem laidOut : laidOutB Try.prog = true := by kernel_rfl
set_option maxRecDepth 100000 in
set_option maxHeartbeats 4000000 in
theorem walk_none (v : Value) (tu tr e : Int) (w : World) (A : Ts w v []) :
    Calls Try.prog 3 #[v, .int .i64 tu, .int .i64 tr, .int .i64 e] w fun x w' => x = .returned (.bool true) ∧ Below w.heap.size w w' := by
  have MC := Lib.hid (fun w (A : Ts w v []) => Middle_none A)
  have A0 := Lib.hid A
  obtain ⟨a, cap, rfl, a1, a2, _⟩ := A
  simp only [List.length_nil] at *
  go_enter Try.func3, Try.ntmps3
  go_wp2_with fail
  refine (awake13_c _).mono ?_
  rintro x w1 ⟨rfl, hb⟩
  have B1 := Lib.hid hb
  clear hb
  go_wp2_with fail
  (with_reducible refine (MC.out _ (A0.out.below B1.out)).mono ?_)
  rintro x w2 ⟨rfl, hb⟩
  have B2 := Lib.hid (bstep B1.out hb)
  clear hb
  go_wp2_with fail
  go_ret
  exact ⟨rfl, B2.out⟩
set_option maxRecDepth 100000 in
set_option maxHeartbeats 4000000 in
theorem walk_bad (v : Value) (L : List Int) (tu tr e : Int) (w : World) (A : Ts w v L) (hi : i64M L) (hn : L.length * 8 ≤ 140737488351232) (hp : 0 < L.length) (h : ¬ okM L) :
    Calls Try.prog 3 #[v, .int .i64 tu, .int .i64 tr, .int .i64 e] w fun x w' => x = .returned (.bool true) ∧ Below w.heap.size w w' := by
  have MC := Lib.hid (fun w (A : Ts w v L) => Middle_some A hp (by omega) hi)
  have HE : mdE L = .returned (.tuple #[.int .i64 0, .int .i64 0, .int .i64 2]) := by
    unfold mdE
    rw [okM_iff hp] at h
    simp only [if_neg (show ¬ L.length = 0 by omega), if_neg h]
  rw [HE] at MC
  have A0 := Lib.hid A
  obtain ⟨a, cap, rfl, a1, a2, _⟩ := A
  clear HE h hi hn
  generalize L.length = n at *
  go_enter Try.func3, Try.ntmps3
  go_wp2_with fail
  refine (awake13_c _).mono ?_
  rintro x w1 ⟨rfl, hb⟩
  have B1 := Lib.hid hb
  clear hb
  go_wp2_with fail
  (with_reducible refine (MC.out _ (A0.out.below B1.out)).mono ?_)
  rintro x w2 ⟨rfl, hb⟩
  have B2 := Lib.hid (bstep B1.out hb)
  clear hb
  go_wp2_with fail
  go_ret
  exact ⟨rfl, B2.out⟩

theorem pick_e (d : Int) : ∃ r s : Int, d.tmod 1000000 = r ∧ -1000000 < r ∧ r < 1000000 ∧ r % 1000000 = s ∧ (r + 1000000) % 1000000 = s ∧ 0 ≤ s ∧ s < 1000000 :=
  ⟨_, _, rfl, Int.lt_tmod_of_pos d (by omega), Int.tmod_lt_of_pos d (by omega), rfl, by omega, Int.emod_nonneg _ (by omega), Int.emod_lt_of_pos _ (by omega)⟩
theorem pick_t (d : Int) : ∃ r : Int, d.tmod 1152921504606846976 = r ∧ -1152921504606846976 < r ∧ r < 1152921504606846976 :=
  ⟨_, rfl, Int.lt_tmod_of_pos d (by omega), Int.tmod_lt_of_pos d (by omega)⟩
theorem pick_n (d : Int) (n : Nat) (h : 0 < n) : ∃ (t : Int) (r : Nat), d.tmod n = t ∧ -(n : Int) < t ∧ t < n ∧ r < n ∧ (t + n).tmod n = (r : Int) ∧ (t + n) % n = (r : Int) := by
  have h1 := Int.lt_tmod_of_pos d (show (0 : Int) < (n : Int) by omega)
  have h2 := Int.tmod_lt_of_pos d (show (0 : Int) < (n : Int) by omega)
  have h3 := Int.emod_nonneg (d.tmod n + n) (show (n : Int) ≠ 0 by omega)
  have h4 := Int.emod_lt_of_pos (d.tmod n + n) (show (0 : Int) < (n : Int) by omega)
  refine ⟨_, ((d.tmod n + n) % n).toNat, rfl, h1, h2, by omega, ?_, by omega⟩
  rw [Int.tmod_eq_emod_of_nonneg (by omega)]
  omega
theorem bnd_min {d : Int} (h : 0 ≤ d) : min d 2305843009213693952 = Fx.bnd d := by
  unfold Fx.bnd
  rw [if_neg (by omega)]
  by_cases c : 2305843009213693952 < d
  · rw [if_pos c]; omega
  · rw [if_neg c]; omega

set_option maxRecDepth 100000 in
set_option maxHeartbeats 8000000 in
theorem walk_yes (v : Value) (L : List Int) (tu tr e : Int) (w : World) (A : Ts w v L) (hi : i64M L) (hn : L.length * 8 ≤ 140737488351232) (hp : 0 < L.length) (h : okM L) :
    Calls Try.prog 3 #[v, .int .i64 tu, .int .i64 tr, .int .i64 e] w fun x w' => x = .returned (.bool true) ∧ Below w.heap.size w w' := by
  have hb2 := (okM_iff hp).1 h
  obtain ⟨E0, E, eE1, eE2, eE3, eE4, eE5, eE6, eE7⟩ := pick_e e
  obtain ⟨T, eT1, eT2, eT3⟩ := pick_t tr
  have HE : Hid (mdE L = .returned (.tuple #[.int .i64 (mid L), .int .i64 (Fx.bnd (wid L)), .int .i64 0])) := Lib.hid (by
    unfold mdE
    simp only [if_neg (show ¬ L.length = 0 by omega), if_pos hb2])
  have MC := Lib.hid (fun w (A : Ts w v L) => Middle_some A hp (by omega) hi)
  rw [HE.out] at MC
  have OKM := Lib.hid h
  have HI64 := Lib.hid hi
  have mi := mid_in L hp
  have lwx := sa_le L (Nat.zero_le ((L.length - 1) / 2)) (by omega)
  have hgx := sa_le L (i := L.length / 2) (j := L.length - 1) (by omega) (by omega)
  have m0 : sa L 0 ≤ mid L := by unfold lw at mi; omega
  have m1 : mid L ≤ sa L (L.length - 1) := by unfold hg at mi; omega
  have wd0 : 0 ≤ wid L := by unfold wid; omega
  have WD : Hid (min (sa L (L.length - 1) - sa L 0) 2305843009213693952 = Fx.bnd (wid L)) := Lib.hid (bnd_min wd0)
  have NM : Hid (2 * Rd.off (fun x => !(nrB T E x)) L L.length < L.length → nrB T (E + 1) (mid L) = true) := Lib.hid fun q => by
    have := near_mid L T E hp q
    unfold nrB
    rw [decide_eq_true (by omega), decide_eq_true (by omega)]
    rfl
  have LA := Lib.hid (lo_all L hp)
  have HA := Lib.hid (hi_all L hp)
  have LS : Hid (∀ (k : Nat) (x : Int), L[k]? = some x → Rd.lo L (k + 1) = min (Rd.lo L k) x) := Lib.hid fun k x hx => by rw [Rd.lo, getD_at L hx]
  have HS : Hid (∀ (k : Nat) (x : Int), L[k]? = some x → Rd.hi L (k + 1) = max (Rd.hi L k) x) := Lib.hid fun k x hx => by rw [Rd.hi, getD_at L hx]
  have OS : Hid (∀ (k : Nat) (x : Int), L[k]? = some x → Rd.off (fun x => !(nrB T E x)) L (k + 1) = Rd.off (fun x => !(nrB T E x)) L k + if (!(nrB T E x)) = true then 1 else 0) := Lib.hid fun k x hx => off_succ _ L hx
  have OL : Hid (∀ k, Rd.off (fun x => !(nrB T E x)) L k ≤ k) := Lib.hid fun k => off_le _ L k
  have LR : Hid (∀ (k : Nat), k ≤ L.length → -2305843009213693952 ≤ Rd.lo L k ∧ Rd.lo L k ≤ 2305843009213693952 ∧ -2305843009213693952 ≤ Rd.hi L k ∧ Rd.hi L k ≤ 2305843009213693952) := Lib.hid fun k hk => ⟨(h _ ((lo_le L k hk).2 hp)).1, (h _ ((lo_le L k hk).2 hp)).2, (h _ ((hi_ge L k hk).2 hp)).1, (h _ ((hi_ge L k hk).2 hp)).2⟩
  have F0 : Hid (∃ x0, L[0]? = some x0 ∧ Rd.lo L 0 = x0 ∧ Rd.hi L 0 = x0 ∧ Rd.off (fun x => !(nrB T E x)) L 0 = 0) := Lib.hid ⟨L.getD 0 0, getD_of hp, rfl, rfl, rfl⟩
  have A0 := Lib.hid A
  obtain ⟨a, cap, rfl, a1, a2, a3⟩ := A
  obtain ⟨b, o0, rfl, hbl, hL⟩ := a3 hp
  have HL := Lib.hid hL
  have GL : Hid (∀ (k : Nat), k < L.length → ∃ x, L[k]? = some x) := Lib.hid fun k hk => ⟨_, List.getElem?_eq_getElem hk⟩
  have OK1 : Hid (∀ (k : Nat) (x : Int), L[k]? = some x → -2305843009213693952 ≤ x ∧ x ≤ 2305843009213693952) := Lib.hid fun k x hk => h x (List.mem_of_getElem? hk)
  clear hL a3 hi h mi lwx hgx wd0
  unfold wid at WD MC HE
  generalize Fx.bnd (sa L (L.length - 1) - sa L 0) = Z at *
  generalize mid L = m at *
  generalize sa L 0 = x0 at *
  generalize sa L (L.length - 1) = xq at *
  generalize Rd.off (fun x => !(nrB T E x)) L = OF at *
  generalize Rd.lo L = LO at *
  generalize Rd.hi L = HI at *
  generalize hnn : L.length = n at *
  have HM := Lib.hid hnn
  clear hnn
  obtain ⟨t, r, eN1, eN2, eN3, eN4, eN5, eN6⟩ := pick_n tu n hp
  have kz : ¬ (n : Int) = 0 := by omega
  have rn : r ≤ n := by omega
  have rc : r ≤ cap := by omega
  have cr : ¬ cap = r := by omega
  go_enter Try.func3, Try.ntmps3
  go_wp2_with fail
  refine (awake13_c _).mono ?_
  rintro x w1 ⟨rfl, hb⟩
  have B1 := Lib.hid hb
  clear hb
  go_wp2_with fail
  (with_reducible refine (MC.out _ (A0.out.below B1.out)).mono ?_)
  rintro x w2 ⟨rfl, hb⟩
  have B2 := Lib.hid (bstep B1.out hb)
  have HL2 : Hid (∀ (j : Nat) (x : Int), L[j]? = some x → w2.cell? ⟨b, o0 + j, none⟩ = some (.int .i64 x)) := Lib.hid fun j x hj => (B2.out.cell (p := ⟨b, _, none⟩) hbl).trans (HL.out j x hj)
  have zb2 : b < w2.heap.size := Nat.lt_of_lt_of_le hbl B2.out.size
  clear hb MC
  go_upto_region 7 with fail
  refine wp_region_held_drew (S := fun _ => True) (by kernel_rfl) trivial (fun hHeld => ?_)
  refine wpAnyH_take (i := 1) (v := ?_) rfl (by kernel_rfl) (by kernel_rfl) (by kernel_rfl) (fun _ _ _ h => h) (Or.inl ⟨by rfl, ?_⟩) hHeld ?_
  rotate_left
  · ((intro w _; go_simp); try with_reducible rfl)
  (try simp only [List.getElem_toArray, List.getElem_cons_succ, List.getElem_cons_zero, Act.put, List.setIfInBounds_toArray, List.set_cons_zero, List.set_cons_succ])
  refine wpAnyH_take (i := 2) (v := ?_) rfl (by kernel_rfl) (by kernel_rfl) (by kernel_rfl) (fun _ _ _ h => h) (Or.inl ⟨by rfl, ?_⟩) hHeld ?_
  rotate_left
  · ((intro w _; go_simp); try with_reducible rfl)
  (try simp only [List.getElem_toArray, List.getElem_cons_succ, List.getElem_cons_zero, Act.put, List.setIfInBounds_toArray, List.set_cons_zero, List.set_cons_succ])
  refine wpAnyH_take (i := 3) (v := ?_) rfl (by kernel_rfl) (by kernel_rfl) (by kernel_rfl) (fun _ _ _ h => h) (Or.inl ⟨by rfl, ?_⟩) hHeld ?_
  rotate_left
  · ((intro w _; go_simp); try with_reducible rfl)
  (try simp only [List.getElem_toArray, List.getElem_cons_succ, List.getElem_cons_zero, Act.put, List.setIfInBounds_toArray, List.set_cons_zero, List.set_cons_succ])
  refine wpAnyH_take (i := 5) (v := ?_) rfl (by kernel_rfl) (by kernel_rfl) (by kernel_rfl) (fun _ _ _ h => h) (Or.inl ⟨by rfl, ?_⟩) hHeld ?_
  rotate_left
  · ((intro w _; go_simp); try with_reducible rfl)
  (try simp only [List.getElem_toArray, List.getElem_cons_succ, List.getElem_cons_zero, Act.put, List.setIfInBounds_toArray, List.set_cons_zero, List.set_cons_succ])
  refine wpAnyH_take (i := 6) (v := ?_) rfl (by kernel_rfl) (by kernel_rfl) (by kernel_rfl) (fun _ _ _ h => h) (Or.inl ⟨by rfl, ?_⟩) hHeld ?_
  rotate_left
  · ((intro w _; go_simp); try with_reducible rfl)
  (try simp only [List.getElem_toArray, List.getElem_cons_succ, List.getElem_cons_zero, Act.put, List.setIfInBounds_toArray, List.set_cons_zero, List.set_cons_succ])
  refine wpAnyH_take (i := 7) (v := ?_) rfl (by kernel_rfl) (by kernel_rfl) (by kernel_rfl) (fun _ _ _ h => h) (Or.inl ⟨by rfl, ?_⟩) hHeld ?_
  rotate_left
  · ((intro w _; go_simp); try with_reducible rfl)
  (try simp only [List.getElem_toArray, List.getElem_cons_succ, List.getElem_cons_zero, Act.put, List.setIfInBounds_toArray, List.set_cons_zero, List.set_cons_succ])
  refine wpAnyH_ready (rs := [0]) (by kernel_rfl) (by simp) (AllReadyH.cons rfl (fun KQ hKQ => ?_) AllReadyH.nil)
  go_simp
  refine hKQ.out _ _ trivial (fun hH2 => ?_)
  clear hKQ KQ hHeld
  have hHeld := hH2
  clear hH2
  (try simp only [List.getElem_toArray, List.getElem_cons_succ, List.getElem_cons_zero, Act.put, List.setIfInBounds_toArray, List.set_cons_zero, List.set_cons_succ])
  have O4 : Hid (OwnT (w2.alloc (.cells #[] 23)).drew w2.heap.size (.slice (some ⟨w2.heap.size, 0, none⟩) 0 0) []) := Lib.hid (ownT_below (own0T w2 w2.heap.size (Nat.le_refl _)) (brefl _).drew)
  have B4 : Hid (Below w2.heap.size w2 ((w2.alloc (.cells #[] 23)).drew)) := Lib.hid (bdrew (balloc (brefl w2) _) 1)
  generalize (w2.alloc (.cells #[] 23)).drew = w4 at *
  have C4 : Hid (∀ (j : Nat) (x : Int), L[j]? = some x → w4.cell? ⟨b, o0 + j, none⟩ = some (.int .i64 x)) := Lib.hid fun j x hj => (B4.out.cell (p := ⟨b, _, none⟩) zb2).trans (HL2.out j x hj)
  obtain ⟨va, w5, ra, oa, ba⟩ := appTS O4.out (L.drop r) ⟨b, o0 + r, none⟩ (cap - r) (drop_cellsT C4.out r) B4.out.size (by rw [List.length_drop, HM.out]; simp; omega) 22
  rw [List.nil_append] at oa
  obtain ⟨aa, ac, rfl, _⟩ := oa.ts
  rw [List.length_drop, HM.out] at ra
  have RA := Lib.hid ra
  have B5 : Hid (Below w2.heap.size w2 w5) := Lib.hid (B4.out.trans ba)
  have C5 : Hid (∀ (j : Nat) (x : Int), L[j]? = some x → w5.cell? ⟨b, o0 + j, none⟩ = some (.int .i64 x)) := Lib.hid fun j x hj => (B5.out.cell (p := ⟨b, _, none⟩) zb2).trans (HL2.out j x hj)
  obtain ⟨vb, w6, rb, ob, bb⟩ := appTS oa (L.take r) ⟨b, o0, none⟩ cap (take_cellsT C5.out r) B5.out.size (by rw [List.length_drop, List.length_take, HM.out]; omega) 22
  rw [List.length_drop, List.length_take, HM.out, Nat.min_eq_left (by omega)] at rb
  have B6 : Hid (Below w2.heap.size w2 w6) := Lib.hid (B5.out.trans bb)
  have MM := Middle_some ob.ts (by rw [List.length_append, List.length_drop, List.length_take, HM.out]; omega) (by rw [List.length_append, List.length_drop, List.length_take, HM.out]; omega) (fun x hx => HI64.out x ((rot_perm L r).mem_iff.1 hx))
  rw [mdE_eq (rot_perm L r), HE.out] at MM
  obtain ⟨ab, bc, rfl, _⟩ := ob.ts
  obtain ⟨lm, hlm⟩ : ∃ lm, (L.drop r ++ L.take r).length = lm := ⟨_, rfl⟩
  rw [hlm] at rb MM
  have RB := Lib.hid rb
  have MH := Lib.hid MM
  clear ra oa ba rb ob bb MM hlm
  refine wpAnyH_ready (rs := [4]) (by kernel_rfl) (by simp) (AllReadyH.cons rfl (fun KQ hKQ => ?_) AllReadyH.nil)
  refine By.step_append_eq rfl (.tmp 51) (.tmp 54) 22 rfl _ _ _ _ rfl rfl RA.out ?_
  refine hKQ.out _ _ trivial (fun hH2 => ?_)
  clear hKQ KQ hHeld
  have hHeld := hH2
  clear hH2
  (try simp only [List.getElem_toArray, List.getElem_cons_succ, List.getElem_cons_zero, Act.put, List.setIfInBounds_toArray, List.set_cons_zero, List.set_cons_succ])
  refine wpAnyH_ready (rs := [8]) (by kernel_rfl) (by simp) (AllReadyH.cons rfl (fun KQ hKQ => ?_) AllReadyH.nil)
  refine By.step_append_eq rfl (.tmp 55) (.tmp 58) 22 rfl _ _ _ _ rfl rfl RB.out ?_
  refine hKQ.out _ _ trivial (fun hH2 => ?_)
  clear hKQ KQ hHeld
  have hHeld := hH2
  clear hH2
  (try simp only [List.getElem_toArray, List.getElem_cons_succ, List.getElem_cons_zero, Act.put, List.setIfInBounds_toArray, List.set_cons_zero, List.set_cons_succ])
  refine wpAnyH_ready (rs := [9]) (by kernel_rfl) (by simp) (AllReadyH.cons rfl (fun KQ hKQ => ?_) AllReadyH.nil)
  go_simp
  refine MH.out.mono ?_
  rintro e w7 ⟨rfl, hb⟩
  have B7 := Lib.hid (bstep B2.out (bstep B6.out hb))
  have B27 := Lib.hid (bstep B6.out hb)
  clear hb MH
  go_wp2_with fail
  refine hKQ.out _ _ trivial (fun hH2 => ?_)
  clear hKQ KQ hHeld
  have hHeld := hH2
  clear hH2
  (try simp only [List.getElem_toArray, List.getElem_cons_succ, List.getElem_cons_zero, Act.put, List.setIfInBounds_toArray, List.set_cons_zero, List.set_cons_succ])
  refine wpAnyH_take (i := 10) (v := ?_) rfl (by kernel_rfl) (by kernel_rfl) (by kernel_rfl) (fun _ _ _ h => h) (Or.inl ⟨by rfl, ?_⟩) hHeld ?_
  rotate_left
  · ((intro w _; go_simp); try with_reducible rfl)
  (try simp only [List.getElem_toArray, List.getElem_cons_succ, List.getElem_cons_zero, Act.put, List.setIfInBounds_toArray, List.set_cons_zero, List.set_cons_succ])
  refine wpAnyH_take (i := 11) (v := ?_) rfl (by kernel_rfl) (by kernel_rfl) (by kernel_rfl) (fun _ _ _ h => h) (Or.inl ⟨by rfl, ?_⟩) hHeld ?_
  rotate_left
  · ((intro w _; go_simp); try with_reducible rfl)
  (try simp only [List.getElem_toArray, List.getElem_cons_succ, List.getElem_cons_zero, Act.put, List.setIfInBounds_toArray, List.set_cons_zero, List.set_cons_succ])
  refine wpAnyH_take (i := 12) (v := ?_) rfl (by kernel_rfl) (by kernel_rfl) (by kernel_rfl) (fun _ _ _ h => h) (Or.inl ⟨by rfl, ?_⟩) hHeld ?_
  rotate_left
  · ((intro w _; go_simp); try with_reducible rfl)
  (try simp only [List.getElem_toArray, List.getElem_cons_succ, List.getElem_cons_zero, Act.put, List.setIfInBounds_toArray, List.set_cons_zero, List.set_cons_succ])
  refine wpAnyH_take (i := 13) (v := ?_) rfl (by kernel_rfl) (by kernel_rfl) (by kernel_rfl) (fun _ _ _ h => h) (Or.inl ⟨by rfl, ?_⟩) hHeld ?_
  rotate_left
  · ((intro w _; go_simp); try with_reducible rfl)
  (try simp only [List.getElem_toArray, List.getElem_cons_succ, List.getElem_cons_zero, Act.put, List.setIfInBounds_toArray, List.set_cons_zero, List.set_cons_succ])
  refine wpAnyH_take (i := 14) (v := ?_) rfl (by kernel_rfl) (by kernel_rfl) (by kernel_rfl) (fun _ _ _ h => h) (Or.inl ⟨by rfl, ?_⟩) hHeld ?_
  rotate_left
  · ((intro w _; go_simp); try with_reducible rfl)
  (try simp only [List.getElem_toArray, List.getElem_cons_succ, List.getElem_cons_zero, Act.put, List.setIfInBounds_toArray, List.set_cons_zero, List.set_cons_succ])
  refine wpAnyH_take (i := 15) (v := ?_) rfl (by kernel_rfl) (by kernel_rfl) (by kernel_rfl) (fun _ _ _ h => h) (Or.inl ⟨by rfl, ?_⟩) hHeld ?_
  rotate_left
  · ((intro w _; go_simp); try with_reducible rfl)
  (try simp only [List.getElem_toArray, List.getElem_cons_succ, List.getElem_cons_zero, Act.put, List.setIfInBounds_toArray, List.set_cons_zero, List.set_cons_succ])
  refine wpAnyH_take (i := 16) (v := ?_) rfl (by kernel_rfl) (by kernel_rfl) (by kernel_rfl) (fun _ _ _ h => h) (Or.inl ⟨by rfl, ?_⟩) hHeld ?_
  rotate_left
  · ((intro w _; go_simp); try with_reducible rfl)
  (try simp only [List.getElem_toArray, List.getElem_cons_succ, List.getElem_cons_zero, Act.put, List.setIfInBounds_toArray, List.set_cons_zero, List.set_cons_succ])
  refine wpAnyH_done (by kernel_rfl) ?_ _
  clear RA RB O4 B4 B5 B6 C4 C5 HL2
  clear A0 HE HI64 OKM
  obtain ⟨y0, gy0, ly0, hy0, oy0⟩ := F0.out
  have q0 := (B7.out.cell (p := ⟨b, _, none⟩) hbl).trans (HL.out 0 y0 gy0)
  rw [Nat.add_zero] at q0
  have B7b := Lib.hid B7.out
  go_wp2_with fail
  rw [eE5]
  go_loopw [15, 16, 17, 18] (fun lv hv ov iv wr => ∃ k : Nat, k ≤ n ∧ iv = .int .i64 k ∧ lv = .int .i64 (LO k) ∧ hv = .int .i64 (HI k) ∧ ov = .int .i64 (OF k : Nat) ∧ Below w7.heap.size w7 wr) (fun _ _ _ iv _ => n - (intOf iv).toNat)
  case atStart => exact ⟨0, Nat.zero_le _, rfl, by rw [ly0], by rw [hy0], by rw [oy0]; rfl, brefl w7⟩
  case round =>
    obtain ⟨k, hk, rfl, rfl, rfl, rfl, hb⟩ := hrel
    rename World => wr
    have BR := Lib.hid hb
    have BZ := Lib.hid (bstep B7b.out hb)
    clear hb
    by_cases c : k < n
    · have f1 : decide ((k : Int) < (n : Int)) = true := by rw [decide_eq_true_iff]; omega
      obtain ⟨x, gx⟩ := GL.out k c
      have cx := (BZ.out.cell (p := ⟨b, _, none⟩) hbl).trans (HL.out k x gx)
      obtain ⟨x1, x2⟩ := OK1.out k x gx
      obtain ⟨lr1, lr2, lr3, lr4⟩ := LR.out k hk
      have NC := Lib.hid (fun w => near_c x T E w x1 x2 (by omega) (by omega))
      have S1 := Lib.hid (LS.out k x gx)
      have S2 := Lib.hid (HS.out k x gx)
      have S3 := Lib.hid (OS.out k x gx)
      have ol := OL.out k
      clear gx
      generalize LO k = lo at *
      generalize HI k = hi at *
      generalize OF k = of at *
      cases hnr : nrB T E x with
      | true =>
        rw [hnr] at NC S3
        clear hnr
        go_wp2_with fail
        refine (NC.out _).mono ?_
        rintro e' w' ⟨rfl, rfl⟩
        go_wp2_with fail
        go_roundw
        case rel => exact ⟨k + 1, by omega, by go_num, by rw [S1.out], by rw [S2.out], by rw [S3.out]; rfl, BR.out⟩
        case measure => simp [intOf]; omega
      | false =>
        rw [hnr] at NC S3
        clear hnr
        go_wp2_with fail
        refine (NC.out _).mono ?_
        rintro e' w' ⟨rfl, rfl⟩
        go_wp2_with fail
        go_roundw
        case rel => exact ⟨k + 1, by omega, by go_num, by rw [S1.out], by rw [S2.out], by rw [S3.out]; go_num, BR.out⟩
        case measure => simp [intOf]; omega
    · have f1 : decide ((k : Int) < (n : Int)) = false := by rw [decide_eq_false_iff_not]; omega
      obtain rfl : k = n := by omega
      have ol := OL.out k
      have NMM := Lib.hid NM.out
      rw [LA.out, HA.out]
      clear LS HS OS OL LR GL LA HA F0 NM ly0 hy0 oy0
      generalize OF k = of at *
      have e1 : decide (m < x0) = false := decide_eq_false (by omega)
      have e2 : decide (xq < m) = false := decide_eq_false (by omega)
      have wd := WD.out
      by_cases c2 : k ≤ 2 * of
      · have e3 : decide ((k : Int) ≤ 2 * (of : Int)) = true := decide_eq_true (by omega)
        have e4 : decide (k ≤ 2 * of) = true := decide_eq_true c2
        go_wp2_with fail
        go_ret
        exact ⟨rfl, BZ.out⟩
      · have e3 : decide ((k : Int) ≤ 2 * (of : Int)) = false := decide_eq_false (by omega)
        have e4 : decide (k ≤ 2 * of) = false := decide_eq_false c2
        have NC := Lib.hid (fun w => near_c m T (E + 1) w (by omega) (by omega) (by omega) (by omega))
        rw [NMM.out (by omega)] at NC
        go_wp2_with fail
        refine (NC.out _).mono ?_
        rintro e' w' ⟨rfl, rfl⟩
        go_wp2_with fail
        go_ret
        exact ⟨rfl, BZ.out⟩
theorem walk (v : Value) (L : List Int) (tu tr e : Int) (i0 : i64M L ∧ L.length * 8 ≤ 140737488351232) (wtu : (Lit.int .i64 tu).wf = true) (wtr : (Lit.int .i64 tr).wf = true) (we : (Lit.int .i64 e).wf = true) (w : World) (A : Ts w v L) :
    Calls Try.prog 3 #[v, .int .i64 tu, .int .i64 tr, .int .i64 e] w fun x w' => x = .returned (.bool true) ∧ Below w.heap.size w w' := by
  by_cases hp : 0 < L.length
  · by_cases h : okM L
    · exact walk_yes v L tu tr e w A i0.1 i0.2 hp h
    · exact walk_bad v L tu tr e w A i0.1 i0.2 hp h
  · obtain rfl : L = [] := List.length_eq_zero_iff.1 (by omega)
    exact walk_none v tu tr e w A

set_option maxRecDepth 100000 in
theorem lifted (os : Os) (started : os.Started) (H : Type) (enc : TypeId × Value → H) :
    ReturnsInHanded {} Try.checked os 3 .any (Rows.radioMiddleSpec.pre6 enc Try.prog Try.f3 Rows.radioMiddleRow.domain false) (Rows.radioMiddleSpec.post enc Try.prog Try.f3 false true false false) := by
  refine returnsInHanded_of_change_sized (C := Try.checked) own started (by kernel_rfl) Try.func3
    (ChangeSpec.witness6 (enc := enc) (C := Try.checked) false ⟨#[], #[.slice none 0 0, .int .i64 0, .int .i64 0, .int .i64 0], []⟩ 8 (by kernel_rfl) (by kernel_rfl) (by kernel_rfl) (by kernel_rfl)) ?_
  intro W base args ds gs before hval0 hW hcnd hsz0 _
  have hsz : (DataW.weightsEach Try.prog (Try.f3.params.toList ++ Rows.radioMiddleSpec.plain.varTypes Try.prog) (ds ++ gs)).all (· ≤ reachBytes) = true := hsz0
  have hval : ∀ (j : Nat) t v, Try.f3.params[j]? = some t → args[j]? = some v → Value.okWide Try.prog W .any base t v := hval0
  have hW' := hW
  obtain ⟨p, q, hA0, hV, rfl, hfz, hnd⟩ := hW
  have hA : DataW.TrodAll enc Try.prog W 0 (fun _ => true) true Try.f3.params.toList args.toList ds p := hA0
  rw [Try.params3] at hA hval hsz
  obtain ⟨v0, vs0, d0, ds0, p0, q0, hargs, rfl, rfl, h0, r0⟩ := trodAll_cons hA
  obtain ⟨v1, vs1, d1, ds1, p1, q1, rfl, rfl, rfl, h1, r1⟩ := trodAll_cons r0
  obtain ⟨v2, vs2, d2, ds2, p2, q2, rfl, rfl, rfl, h2, r2⟩ := trodAll_cons r1
  obtain ⟨v3, vs3, d3, ds3, p3, q3, rfl, rfl, rfl, h3, r3⟩ := trodAll_cons r2
  obtain ⟨rfl, rfl, rfl⟩ := trodAll_nil r3
  obtain rfl : args = #[v0, v1, v2, v3] := by cases args; simp_all
  obtain ⟨rfl, rfl⟩ := trodVars_none hV
  have h0k := h0
  have hlt0 : ∀ x ∈ p0, x.block < W.heap.size := fun x hx => by have := hW'.lt x (by simp [hx]); simpa using this
  have hb0 : ∀ elems spare, d0 = .slice elems spare → elems.length * 8 ≤ 140737488351232 := by
    intro es sp he
    have k := sized_slice hsz (j := 0) (t := 22) (e := 23) rfl (by rw [he]; rfl) Try.underlying22
    rw [bytes_time] at k
    unfold reachBytes at k
    omega
  obtain ⟨L0, g0, i0⟩ := open_times (hval 0 22 v0 rfl rfl) h0 hb0
  obtain ⟨a1, rfl, rfl, rfl, w1⟩ := open_int Try.underlying3 (hval 1 3 v1 rfl rfl) h1
  obtain ⟨a2, rfl, rfl, rfl, w2⟩ := open_int Try.underlying23 (hval 2 23 v2 rfl rfl) h2
  obtain ⟨a3, rfl, rfl, rfl, w3⟩ := open_int Try.underlying23 (hval 3 23 v3 rfl rfl) h3
  clear hA0 hval0
  simp only [List.append_nil] at hW'
  refine (walk v0 L0 a1 a2 a3 i0 w1 w2 w3 W g0).mono fun e W' ⟨he, hg⟩ => ?_
  subst he
  exact ⟨_, rfl, _, _, _, [], _, [], hW', trodAll_cons_mk (shut_bool Try.underlying4 _) trodAll_mk0,
    (trodAll_cons_mk (Below.trod laidOut (by kernel_rfl) (of_decide_eq_true (by kernel_rfl)) h0k hg hlt0) (trodAll_cons_mk (shut_int Try.underlying3 w1) (trodAll_cons_mk (shut_int Try.underlying23 w2) (trodAll_cons_mk (shut_int Try.underlying23 w3) trodAll_mk0)))), rfl, hg.frame _, fun h => nomatch h⟩

theorem over : Rows.radioMiddleRow.holds Try.pinned (OpenSpec.ofChange Rows.radioMiddleSpec) :=
  OpenClaim.holds_of_wide 3 Try.f3 rfl rfl rfl rfl rfl rfl rfl ⟨rfl, rfl, rfl, rfl, rfl⟩ rfl rfl rfl rfl rfl (by kernel_rfl) Try.func3 (by kernel_rfl)
    (of_decide_eq_true (by kernel_rfl)) (by unfold Func.isWrapper; first | (rw [if_pos (by decide +kernel)]; kernel_rfl) | (rw [if_neg (by decide +kernel)]; exact ⟨rfl, rfl⟩))
    (fun os started H enc _ => lifted os started H enc)

theorem proved : Rows.RadioMiddleSaid :=
  over
end Go.Proofs.Ytoecgabdjpgleaa.radioMiddle
