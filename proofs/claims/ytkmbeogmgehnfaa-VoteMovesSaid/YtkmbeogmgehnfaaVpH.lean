/-
  The program's select jitters, the farthest, the least jitter.
  Conditions: none but that the candidates and the numbers lie in memory.
-/
import Derived.Test.YtkmbeogmgehnfaaVpC
import Derived.Test.YtkmbeogmgehnfaaVoG
import Derived.Deep.RegionHeld3
namespace Go.Proofs.Ytkmbeogmgehnfaa.Vo
open Go.RowKit Go.ChangeShapes Go.WideShapes Go.ChangeAt Go.Joins Fl Hu
set_option linter.unusedVariables false
set_option linter.unusedSimpArgs false

theorem far_comm (a b : Int) : far a b = far b a := by unfold far; split <;> split <;> omega
/-- how far the first k are off, together. -/
def gp (L : List Cd) (x : Int) (T : List Nat) : Int := sm (fun n => far (cd L n).off x) T
theorem gp_sF (L : List Cd) (x : Int) (T : List Nat) : gp L x T = sF L T x := sm_congr fun n _ => far_comm _ _
theorem gp_bd {L : List Cd} (ok : okL L) {x : Int} (hx : -68719476736 ≤ x ∧ x ≤ 68719476736) {N : List Nat} (h : ∀ n ∈ N, n < L.length) : 0 ≤ gp L x N ∧ gp L x N ≤ 137438953472 * N.length := by
  have a := sm_bd (f := fun n => far (cd L n).off x) (lo := 0) (hi := 137438953472) (N := N) (fun n hn => far_in (cd_ok ok (h n hn)).1 hx)
  unfold gp
  omega
theorem lj_le (L : List Cd) : ∀ {T : List Nat} {n : Nat}, n ∈ T → lj L T ≤ (cd L n).jit
  | x :: r, n, h => by
    simp only [lj]
    rcases List.mem_cons.1 h with rfl | h
    · omega
    · have := lj_le L h
      omega
set_option maxRecDepth 100000 in
set_option maxHeartbeats 8000000 in
theorem selectJitter_c {w : World} {v sv : Value} {L : List Cd} {T : List Nat} (h : Cs w v L) (hs : Is w sv (ints T)) (ok : okL L) (hT : ∀ n ∈ T, n < L.length) (hl : 1 < T.length) (hl2 : T.length ≤ 32) (p x : Nat) (hp : T[p]? = some x) :
    Calls Try.prog 52 #[v, sv, .int .i64 (p : Nat)] w fun e w' => e = .returned (.int .i64 (sj L T x)) ∧ Below w.heap.size w w' := by
  have pl := (List.getElem?_eq_some_iff.1 hp).1
  have xl := hT x (List.mem_of_getElem? hp)
  have okp := cd_ok ok xl
  have EQ : Hid (sj L T x = (gp L (cd L x).off T).tdiv ((T.length : Int) - 1)) := Lib.hid (by
    unfold sj
    rw [← gp_sF, Int.tdiv_eq_ediv_of_nonneg (gp_bd ok okp.1 hT).1])
  have BD := Lib.hid (fun k => gp_bd ok okp.1 (N := T.take k) (fun n hn => hT n (List.mem_of_mem_take hn)))
  have GP := Lib.hid (fun c (hc : okC c) w => gap_c c (cd L x) w hc okp)
  have AP := Lib.hid (cd_at xl)
  have HP := Lib.hid (ints_at hp)
  rw [EQ.out]
  generalize cd L x = cq at *
  obtain ⟨x0, d0, t0, s0⟩ := cq
  simp only at EQ BD GP ⊢
  have HS := Lib.hid h
  have HZ := Lib.hid hs
  have OK := Lib.hid ok
  have LT := Lib.hid hT
  have l32 := ok.2
  obtain ⟨a, cap, rfl, c1, c2, _⟩ := h
  obtain ⟨sa, sc, rfl, p1, p2, _⟩ := hs
  obtain ⟨m, hm⟩ : ∃ m, L.length = m := ⟨_, rfl⟩
  obtain ⟨n, hsn⟩ : ∃ n, T.length = n := ⟨_, rfl⟩
  have HM := Lib.hid hm
  have HN := Lib.hid hsn
  rw [ints_len, hsn] at HZ p1 ⊢
  rw [hm] at HS c1 l32 ⊢
  rw [hsn] at hl hl2
  have m0 : (0 : Int) ≤ (m : Int) := by omega
  have m1 : (m : Int) ≤ 32 := by omega
  have m2 : (m : Int) ≤ (cap : Int) := by omega
  have m3 : (cap : Int) ≤ 9223372036854775807 := by omega
  have n0 : (1 : Int) < (n : Int) := by omega
  have n1 : (n : Int) ≤ 32 := by omega
  have n2 : (n : Int) ≤ (sc : Int) := by omega
  have n3 : (sc : Int) ≤ 9223372036854775807 := by omega
  have w1 : IntKind.i64.wrap ((n : Int) - 1) = (n : Int) - 1 := wrap_in (by omega) (by omega)
  have a7 : ((n : Int) - 1 == 0) = false := by rw [beq_eq_false_iff_ne]; omega
  have a8 : ¬ ((n : Int) - 1 = 0) := by omega
  have q0 : (0 : Int) ≤ (p : Int) := by omega
  have q1 : (p : Int) < (n : Int) := by omega
  have x00 : (0 : Int) ≤ (x : Int) := by omega
  have x01 : (x : Int) < (m : Int) := by omega
  clear hm hsn ok hT okp hp EQ
  go_enter Try.func52, Try.ntmps52
  go_wp2_with fail
  go_loopw [7, 9, 12] (fun gv _ iv wr => ∃ k : Nat, k ≤ n ∧ iv = .int .i64 (k : Nat) ∧ gv = .int .i64 (gp L x0 (T.take k)) ∧ Below w.heap.size w wr) (fun _ _ iv _ => n - (intOf iv).toNat)
  case atStart => exact ⟨0, by omega, rfl, rfl, brefl w⟩
  case round =>
    obtain ⟨k, hk, rfl, rfl, hb⟩ := hrel
    rename World => wr
    have HB := Lib.hid hb
    clear hb
    by_cases c : k < n
    · have e1 : decide ((k : Int) < (n : Int)) = true := decide_eq_true (by omega)
      have e2 : decide (k < n) = true := decide_eq_true c
      have k1 : (k : Int) < (n : Int) := by omega
      have k0 : (0 : Int) ≤ (k : Int) := by omega
      have wk : IntKind.i64.wrap ((k : Int) + 1) = (k : Int) + 1 := wrap_in (by omega) (by omega)
      obtain ⟨i, hi⟩ : ∃ i, T[k]? = some i := ⟨_, List.getElem?_eq_getElem (by rw [HN.out]; exact c)⟩
      have il := LT.out i (List.mem_of_getElem? hi)
      have hx := Lib.hid (cd_at il)
      have okx := cd_ok OK.out il
      have i0 : (0 : Int) ≤ (i : Int) := by omega
      have i1 : (i : Int) < (m : Int) := by rw [← HM.out]; omega
      have S1 : Hid (gp L x0 (T.take (k + 1)) = gp L x0 (T.take k) + far (cd L i).off x0) := Lib.hid (sm_snoc _ hi)
      have bk := BD.out k
      rw [List.length_take, Nat.min_eq_left (by rw [HN.out]; omega)] at bk
      have bk1 := BD.out (k + 1)
      rw [List.length_take, Nat.min_eq_left (by rw [HN.out]; omega), S1.out] at bk1
      have FC := Lib.hid (GP.out (cd L i) okx)
      obtain ⟨sb, so, ea, y0⟩ := (HZ.out.below HB.out).at (ints_at hi)
      subst ea
      obtain ⟨b, off, ea, _⟩ := (HS.out.below HB.out).at hx.out
      subst ea
      have CC : Hid (∀ W, Below wr.heap.size wr W → W.cell? ⟨b, off + i * 4, none⟩ = some (.int .i64 (cd L i).off) ∧ W.cell? ⟨b, off + i * 4 + 1, none⟩ = some (.int .i64 (cd L i).dist) ∧ W.cell? ⟨b, off + i * 4 + 2, none⟩ = some (.int .i64 (cd L i).jit) ∧ W.cell? ⟨b, off + i * 4 + 3, none⟩ = some (.int .i64 (cd L i).str) ∧ W.cell? ⟨sb, so + p, none⟩ = some (.int .i64 (x : Nat)) ∧ W.cell? ⟨b, off + x * 4, none⟩ = some (.int .i64 x0) ∧ W.cell? ⟨b, off + x * 4 + 1, none⟩ = some (.int .i64 d0) ∧ W.cell? ⟨b, off + x * 4 + 2, none⟩ = some (.int .i64 t0) ∧ W.cell? ⟨b, off + x * 4 + 3, none⟩ = some (.int .i64 s0)) := Lib.hid fun W q => by
        obtain ⟨_, _, ea, z1, z2, z3, z4⟩ := (HS.out.below (bstep HB.out q)).at hx.out
        cases ea
        obtain ⟨_, _, ea, u1, u2, u3, u4⟩ := (HS.out.below (bstep HB.out q)).at AP.out
        cases ea
        obtain ⟨_, _, ea, u0⟩ := (HZ.out.below (bstep HB.out q)).at HP.out
        cases ea
        exact ⟨z1, z2, z3, z4, u0, u1, u2, u3, u4⟩
      generalize far (cd L i).off x0 = fv at *
      generalize cd L i = ci at *
      obtain ⟨xo, xd, xj, xs⟩ := ci
      simp only at CC
      generalize gp L x0 (T.take k) = gv at *
      have a1 : IntKind.i64.wrap (gv + fv) = gv + fv := wrap_in (by omega) (by omega)
      replace FC : Hid (∀ w, Calls Try.prog 31 #[.agg #[.int .i64 xo, .int .i64 xd, .int .i64 xj, .int .i64 xs], .agg #[.int .i64 x0, .int .i64 d0, .int .i64 t0, .int .i64 s0]] w fun e w' => e = .returned (.int .i64 fv) ∧ Below w.heap.size w w') := FC
      have hb0 : Below wr.heap.size wr wr.drew := (brefl wr).drew
      clear hi okx bk bk1
      go_upto_region 5 with fail
      clear y0
      go_region_held3 (fun W => W.cell? ⟨b, off + i * 4, none⟩ = some (.int .i64 xo) ∧ W.cell? ⟨b, off + i * 4 + 1, none⟩ = some (.int .i64 xd) ∧ W.cell? ⟨b, off + i * 4 + 2, none⟩ = some (.int .i64 xj) ∧ W.cell? ⟨b, off + i * 4 + 3, none⟩ = some (.int .i64 xs) ∧ W.cell? ⟨sb, so + p, none⟩ = some (.int .i64 (x : Nat)) ∧ W.cell? ⟨b, off + x * 4, none⟩ = some (.int .i64 x0) ∧ W.cell? ⟨b, off + x * 4 + 1, none⟩ = some (.int .i64 d0) ∧ W.cell? ⟨b, off + x * 4 + 2, none⟩ = some (.int .i64 t0) ∧ W.cell? ⟨b, off + x * 4 + 3, none⟩ = some (.int .i64 s0))
        (first | exact CC.out _ (by assumption))
        (first | (go_at_call 31; (with_reducible refine (FC.out _).mono ?_); rintro e w4 ⟨rfl, hb⟩; replace hb := bstep (by assumption : Below wr.heap.size wr _) hb))
      rename World => w4
      rename Below wr.heap.size wr w4 => hbx
      have B4 := Lib.hid (bstep HB.out hbx)
      clear hb0 CC FC hbx
      go_wp2_with fail
      exact ⟨⟨k + 1, by omega, by go_num, by rw [S1.out], B4.out⟩, by simp [intOf]; omega⟩
    · have e1 : decide ((k : Int) < (n : Int)) = false := decide_eq_false (by omega)
      have e2 : decide (k < n) = false := decide_eq_false c
      obtain rfl : k = n := by omega
      have tk : T.take k = T := List.take_of_length_le (by rw [HN.out]; exact Nat.le_refl _)
      have bk := BD.out k
      rw [tk, HN.out] at bk
      rw [tk]
      obtain ⟨gv, hgv⟩ : ∃ z, gp L x0 T = z := ⟨_, rfl⟩
      have HGV := Lib.hid hgv
      rw [hgv] at bk ⊢
      clear hgv
      have t0 : 0 ≤ gv.tdiv ((k : Int) - 1) := Int.tdiv_nonneg bk.1 (by omega)
      have t1 : gv.tdiv ((k : Int) - 1) ≤ gv := by rw [Int.tdiv_eq_ediv_of_nonneg bk.1]; exact Int.ediv_le_self _ bk.1
      have wt : IntKind.i64.wrap (gv.tdiv ((k : Int) - 1)) = gv.tdiv ((k : Int) - 1) := wrap_in (by omega) (by omega)
      go_wp2_with fail
      go_ret
      exact ⟨by rw [HGV.out]; rfl, HB.out⟩
set_option maxRecDepth 100000 in
set_option maxHeartbeats 8000000 in
theorem farthest_c {w : World} {v sv : Value} {L : List Cd} {T : List Nat} (h : Cs w v L) (hs : Is w sv (ints T)) (ok : okL L) (hT : ∀ n ∈ T, n < L.length) (hl : 1 < T.length) (hl2 : T.length ≤ 32) :
    Calls Try.prog 25 #[v, sv] w fun e w' => (∃ (p x : Nat), e = .returned (.tuple #[.int .i64 (p : Nat), .int .i64 (sj L T x)]) ∧ IsW L T p ∧ T[p]? = some x) ∧ Below w.heap.size w w' := by
  have CJ := Lib.hid (fun w' (b : Below w.heap.size w w') p x hp => selectJitter_c (h.below b) (hs.below b) ok hT hl hl2 p x hp)
  have NN := Lib.hid (fun x => sj_nn L T x hl)
  have DN := Lib.hid (fun (wo : Nat) (mo : Int) (q : WP L T T.length wo mo) => q.done (by omega))
  have HS := Lib.hid h
  have HZ := Lib.hid hs
  have OK := Lib.hid ok
  have LT := Lib.hid hT
  have l32 := ok.2
  obtain ⟨a, cap, rfl, c1, c2, _⟩ := h
  obtain ⟨sa, sc, rfl, p1, p2, _⟩ := hs
  obtain ⟨m, hm⟩ : ∃ m, L.length = m := ⟨_, rfl⟩
  obtain ⟨n, hsn⟩ : ∃ n, T.length = n := ⟨_, rfl⟩
  have HM := Lib.hid hm
  have HN := Lib.hid hsn
  rw [ints_len, hsn] at HZ p1 ⊢
  rw [hm] at HS c1 l32 ⊢
  rw [hsn] at hl hl2
  have m0 : (0 : Int) ≤ (m : Int) := by omega
  have m1 : (m : Int) ≤ 32 := by omega
  have m2 : (m : Int) ≤ (cap : Int) := by omega
  have m3 : (cap : Int) ≤ 9223372036854775807 := by omega
  have n0 : (1 : Int) < (n : Int) := by omega
  have n1 : (n : Int) ≤ 32 := by omega
  have n2 : (n : Int) ≤ (sc : Int) := by omega
  have n3 : (sc : Int) ≤ 9223372036854775807 := by omega
  rw [hm, ints_len, hsn] at CJ
  rw [hsn] at DN
  clear hm hsn ok hT
  go_enter Try.func25, Try.ntmps25
  go_wp2_with fail
  go_loopw [6, 7, 8, 9, 12] (fun pv gv _ _ iv wr => ∃ (k wo : Nat) (mo g : Int), k ≤ n ∧ iv = .int .i64 (k : Nat) ∧ pv = .int .i64 (wo : Nat) ∧ gv = .int .i64 g ∧ WP L T k wo mo ∧ ((k = 0 ∧ g = 0) ∨ (0 < k ∧ g = mo)) ∧ Below w.heap.size w wr) (fun _ _ _ _ iv _ => n - (intOf iv).toNat)
  case atStart => exact ⟨0, 0, -1, 0, by omega, rfl, rfl, rfl, WP.start L T, .inl ⟨rfl, rfl⟩, brefl w⟩
  case round =>
    obtain ⟨k, wo, mo, g, hk, rfl, rfl, rfl, hwp, hg, hb⟩ := hrel
    rename World => wr
    have HB := Lib.hid hb
    have HW := Lib.hid hwp
    have HG := Lib.hid hg
    clear hb hwp hg
    by_cases c : k < n
    · have e1 : decide ((k : Int) < (n : Int)) = true := decide_eq_true (by omega)
      have e2 : decide (k < n) = true := decide_eq_true c
      have k1 : (k : Int) < (n : Int) := by omega
      have k0 : (0 : Int) ≤ (k : Int) := by omega
      have wk : IntKind.i64.wrap ((k : Int) + 1) = (k : Int) + 1 := wrap_in (by omega) (by omega)
      obtain ⟨i, hi⟩ : ∃ i, T[k]? = some i := ⟨_, List.getElem?_eq_getElem (by rw [HN.out]; exact c)⟩
      have il := LT.out i (List.mem_of_getElem? hi)
      have hx := Lib.hid (cd_at il)
      have okx := cd_ok OK.out il
      have i0 : (0 : Int) ≤ (i : Int) := by omega
      have i1 : (i : Int) < (m : Int) := by rw [← HM.out]; omega
      have JC := Lib.hid (CJ.out _ HB.out k i hi)
      have nn := NN.out i
      have MG : Hid (mo ≤ sj L T i ↔ g ≤ sj L T i) := Lib.hid (by
        rcases HG.out with ⟨z, e⟩ | ⟨z, e⟩
        · subst z
          rcases HW.out.2 with ⟨_, _, e'⟩ | ⟨_, q, _⟩
          · rw [e, e']; omega
          · omega
        · rw [e])
      have YW := Lib.hid (fun q => HW.out.yes hi q)
      have NW := Lib.hid (fun q => HW.out.no hi q nn)
      have GK : Hid (¬ g ≤ sj L T i → 0 < k ∧ g = mo) := Lib.hid (fun q => by
        rcases HG.out with ⟨_, e⟩ | e
        · rw [e] at q; omega
        · exact e)
      generalize sj L T i = s at *
      clear hi okx
      by_cases q : g ≤ s
      · have d1 := decide_eq_true q
        go_wp2_with fail
        refine JC.out.mono ?_
        rintro e w3 ⟨rfl, hb⟩
        have B3 := Lib.hid (bstep HB.out hb)
        clear hb JC
        go_wp2_with fail
        exact ⟨⟨k + 1, k, s, s, by omega, by go_num, rfl, rfl, YW.out (MG.out.2 q), .inr ⟨by omega, rfl⟩, B3.out⟩, by simp [intOf]; omega⟩
      · have d1 := decide_eq_false q
        go_wp2_with fail
        refine JC.out.mono ?_
        rintro e w3 ⟨rfl, hb⟩
        have B3 := Lib.hid (bstep HB.out hb)
        clear hb JC
        go_wp2_with fail
        exact ⟨⟨k + 1, wo, mo, g, by omega, by go_num, rfl, rfl, NW.out (by have := MG.out; omega), .inr ⟨by omega, (GK.out (by omega)).2⟩, B3.out⟩, by simp [intOf]; omega⟩
    · have e1 : decide ((k : Int) < (n : Int)) = false := decide_eq_false (by omega)
      have e2 : decide (k < n) = false := decide_eq_false c
      obtain rfl : k = n := by omega
      obtain ⟨isw, x, hx, em⟩ := DN.out wo mo HW.out
      have EG : g = sj L T x := by
        rcases HG.out with ⟨z, _⟩ | ⟨_, e⟩
        · omega
        · rw [e, em]
      have FX := Lib.hid isw
      have FY := Lib.hid hx
      have FG := Lib.hid EG
      clear isw hx em EG
      go_wp2_with fail
      go_ret2
      exact ⟨⟨wo, x, by rw [FG.out]; rfl, FX.out, FY.out⟩, HB.out⟩
set_option maxRecDepth 100000 in
set_option maxHeartbeats 8000000 in
theorem leastJitter_c {w : World} {v sv : Value} {L : List Cd} {T : List Nat} (h : Cs w v L) (hs : Is w sv (ints T)) (ok : okL L) (hT : ∀ n ∈ T, n < L.length) (hl : 1 < T.length) (hl2 : T.length ≤ 32) :
    Calls Try.prog 26 #[v, sv] w fun e w' => e = .returned (.int .i64 (lj L T)) ∧ w' = w := by
  obtain ⟨q0, hq0⟩ : ∃ q, T[0]? = some q := ⟨_, List.getElem?_eq_getElem (by omega)⟩
  have ql := hT q0 (List.mem_of_getElem? hq0)
  have A0 := Lib.hid (cd_at ql)
  have Q0 := Lib.hid (ints_at hq0)
  have okq := cd_ok ok ql
  have LE : Hid (min (lj L T) (cd L q0).jit = lj L T) := Lib.hid (by have := lj_le L (List.mem_of_getElem? hq0); omega)
  have ST : Hid ((cd L q0).jit = min (lj L (T.take 0)) (cd L q0).jit) := Lib.hid (by have := okq.2.2.1; show _ = min 68719476736 _; omega)
  have LS := Lib.hid (fun k i (hi : T[k]? = some i) => (by rw [take_more hi, lj_snoc] : lj L (T.take (k + 1)) = min (lj L (T.take k)) (cd L i).jit))
  generalize cd L q0 = cq at *
  obtain ⟨x0, d0, t0, s0⟩ := cq
  simp only at LE ST
  have HS := Lib.hid h
  have HZ := Lib.hid hs
  have OK := Lib.hid ok
  have LT := Lib.hid hT
  have l32 := ok.2
  obtain ⟨a, cap, rfl, c1, c2, _⟩ := h
  obtain ⟨sa, sc, rfl, p1, p2, _⟩ := hs
  obtain ⟨m, hm⟩ : ∃ m, L.length = m := ⟨_, rfl⟩
  obtain ⟨n, hsn⟩ : ∃ n, T.length = n := ⟨_, rfl⟩
  have HM := Lib.hid hm
  have HN := Lib.hid hsn
  rw [ints_len, hsn] at HZ p1 ⊢
  rw [hm] at HS c1 l32 ⊢
  rw [hsn] at hl hl2
  have m0 : (0 : Int) ≤ (m : Int) := by omega
  have m1 : (m : Int) ≤ 32 := by omega
  have m2 : (m : Int) ≤ (cap : Int) := by omega
  have m3 : (cap : Int) ≤ 9223372036854775807 := by omega
  have n0 : (1 : Int) < (n : Int) := by omega
  have n1 : (n : Int) ≤ 32 := by omega
  have n2 : (n : Int) ≤ (sc : Int) := by omega
  have n3 : (sc : Int) ≤ 9223372036854775807 := by omega
  have q00 : (0 : Int) ≤ (q0 : Int) := by omega
  have q01 : (q0 : Int) < (m : Int) := by omega
  have n4 : (0 : Int) < (n : Int) := by omega
  obtain ⟨sb, so, rfl, y0⟩ := HZ.out.at Q0.out
  rw [Nat.add_zero] at y0
  obtain ⟨b, off, rfl, z1, z2, z3, z4⟩ := HS.out.at A0.out
  simp only at z1 z2 z3 z4
  clear hm hsn ok hT okq hq0
  go_enter Try.func26, Try.ntmps26
  go_wp2_with fail
  clear y0 z1 z2 z3 z4
  go_loopw [5, 7, 17] (fun gv _ iv wr => ∃ k : Nat, k ≤ n ∧ iv = .int .i64 (k : Nat) ∧ gv = .int .i64 (min (lj L (T.take k)) t0) ∧ wr = w) (fun _ _ iv _ => n - (intOf iv).toNat)
  case atStart => exact ⟨0, by omega, rfl, by rw [← ST.out], rfl⟩
  case round =>
    obtain ⟨k, hk, rfl, rfl, rfl⟩ := hrel
    by_cases c : k < n
    · have e1 : decide ((k : Int) < (n : Int)) = true := decide_eq_true (by omega)
      have e2 : decide (k < n) = true := decide_eq_true c
      have k1 : (k : Int) < (n : Int) := by omega
      have k0 : (0 : Int) ≤ (k : Int) := by omega
      have wk : IntKind.i64.wrap ((k : Int) + 1) = (k : Int) + 1 := wrap_in (by omega) (by omega)
      obtain ⟨i, hi⟩ : ∃ i, T[k]? = some i := ⟨_, List.getElem?_eq_getElem (by rw [HN.out]; exact c)⟩
      have il := LT.out i (List.mem_of_getElem? hi)
      have hx := Lib.hid (cd_at il)
      have okx := cd_ok OK.out il
      have i0 : (0 : Int) ≤ (i : Int) := by omega
      have i1 : (i : Int) < (m : Int) := by rw [← HM.out]; omega
      have NX := Lib.hid (LS.out k i hi)
      obtain ⟨_, _, ea, y0⟩ := HZ.out.at (ints_at hi)
      cases ea
      obtain ⟨_, _, ea, z1, z2, z3, z4⟩ := HS.out.at hx.out
      cases ea
      generalize cd L i = ci at *
      obtain ⟨xo, xd, xj, xs⟩ := ci
      simp only at z1 z2 z3 z4 NX
      generalize lj L (T.take k) = l at *
      obtain ⟨y, hy⟩ : ∃ y, min l t0 = y := ⟨_, rfl⟩
      rw [hy]
      clear hi okx
      rcases Int.lt_or_le xj y with q | q
      · have d1 := decide_eq_true q
        have d2 : ¬ y ≤ xj := by omega
        have NE : Hid (min (lj L (T.take (k + 1))) t0 = xj) := Lib.hid (by rw [NX.out]; omega)
        have mn : min y xj = xj := by omega
        have d3 : decide (y < xj) = false := decide_eq_false (by omega)
        clear hy NX
        go_wp2_with fail
        all_goals exact ⟨⟨k + 1, by omega, by go_num, by first | (rw [NE.out]; done) | (rw [NE.out, mn]; done), by first | trivial | rfl⟩, by simp [intOf]; omega⟩
      · have d1 : decide (xj < y) = false := decide_eq_false (by omega)
        have NE : Hid (min (lj L (T.take (k + 1))) t0 = y) := Lib.hid (by rw [NX.out]; omega)
        have mn : min y xj = y := by omega
        clear hy NX
        go_wp2_with fail
        all_goals exact ⟨⟨k + 1, by omega, by go_num, by first | (rw [NE.out]; done) | (rw [NE.out, mn]; done), by first | trivial | rfl⟩, by simp [intOf]; omega⟩
    · have e1 : decide ((k : Int) < (n : Int)) = false := decide_eq_false (by omega)
      have e2 : decide (k < n) = false := decide_eq_false c
      obtain rfl : k = n := by omega
      have tk : T.take k = T := List.take_of_length_le (by rw [HN.out]; exact Nat.le_refl _)
      rw [tk, LE.out]
      go_wp2_with fail
      go_ret
      exact ⟨rfl, rfl⟩
end Go.Proofs.Ytkmbeogmgehnfaa.Vo
