/-
  VoteSure: More than half of the sources are truechimers, every one that holds a time of the intersection among them, and the combined offset lies among the survivors'. The law returns true for every input, and the input reads as it did.
  Conditions: none.
-/
import Derived.Test.YtkmbeogmgehnfaaRows
import Derived.Test.YtkmbeogmgehnfaaVoI
import Derived.Test.YtkmbeogmgehnfaaVoZ
import Derived.SizedLaws
import Derived.BigQuiet
import Derived.Deep.CutRange
import Derived.Lib.SmallJoins
namespace Go.Proofs.Ytkmbeogmgehnfaa.voteSure
open Go.ChangeShapes Go.WideShapes Go.ChangeAt Go.RowKit Go.Joins Fl Hu Vo
set_option linter.unusedVariables false
set_option linter.unusedSimpArgs false

theorem own : ownKnob Try.prog.godebug = none := by kernel_rfl
theorem laidOut : laidOutB Try.prog = true := by kernel_rfl

theorem mem_more {T : List Nat} {k y : Nat} (h : T[k]? = some y) (i : Nat) : decide (i ∈ T.take (k + 1)) = (decide (i ∈ T.take k) || decide (y = i)) := by
  rw [take_more h]
  apply Bool.eq_iff_iff.2
  simp
  exact ⟨fun q => q.imp id Eq.symm, fun q => q.imp id Eq.symm⟩
set_option maxRecDepth 100000 in
set_option maxHeartbeats 16000000 in
theorem walk (pc : PC) (v : Value) (L : List Cd) (t : Int) (w : World) (g0 : Cs w v L ∧ (∀ c ∈ L, i64C c) ∧ L.length * 32 ≤ 140737488351232) (g1 : Lit.wf (.int .i64 t) = true) :
    Calls Try.prog 4 #[v, .int .i64 t] w fun e w' => e = .returned (.bool true) ∧ Below w.heap.size w w' := by
  obtain ⟨hC, _, hN⟩ := g0
  have hN' : L.length ≤ 8796093022208 := by omega
  have AW := Lib.hid (awake16_c pc)
  have P1 := Lib.hid (fun w' (q : Below w.heap.size w w') => pc.inter w' v L (hC.below q) hN')
  have P2 := Lib.hid (fun w' sv S (q : Below w.heap.size w w') (h : Is w' sv S) (hl : S.length ≤ 35184372088832) => pc.clus w' v sv L S (hC.below q) h hN' hl)
  have P3 := Lib.hid (fun w' sv S (q : Below w.heap.size w w') (h : Is w' sv S) (hl : S.length ≤ 35184372088832) => pc.comb w' v sv L S (hC.below q) h hN' hl)
  have HS := Lib.hid hC
  unfold IP at P1
  rcases inA_cases L with ⟨_, hA⟩ | ⟨_, hA⟩ | ⟨lo, hi, ok, IS, hA⟩
  · rw [hA] at P1
    obtain ⟨va, cap, rfl, c1, c2, _⟩ := hC
    generalize L.length = m at *
    replace P1 : Hid (∀ w', Below w.heap.size w w' → Calls Try.prog 8 #[.slice va m cap] w' fun e w'' => (∃ v', e = .returned (.tuple #[.agg #[.int .i64 0, .int .i64 0], v', .int .i64 3]) ∧ OwnI w'' w'.heap.size v' (ints [])) ∧ Below w'.heap.size w' w'') := P1
    clear pc hA P2 P3
    go_enter Try.func4, Try.ntmps4
    go_wp2_with fail
    refine (AW.out _).mono ?_
    rintro e w1 ⟨rfl, hb⟩
    have B1 := Lib.hid hb
    clear hb AW
    go_wp2_with fail
    refine (P1.out _ B1.out).mono ?_
    rintro e w2 ⟨⟨tv, rfl, oa⟩, hb⟩
    have B2 := Lib.hid (balloc (bstep B1.out hb) (.cells #[.int .i64 0, .int .i64 0] 27))
    obtain ⟨ta, tc, etv⟩ := oa.form
    rw [show (ints []).length = 0 from rfl] at etv
    subst etv
    clear hb B1 P1 oa
    go_wp2_with fail
    go_ret
    exact ⟨rfl, B2.out⟩
  · rw [hA] at P1
    obtain ⟨va, cap, rfl, c1, c2, _⟩ := hC
    generalize L.length = m at *
    replace P1 : Hid (∀ w', Below w.heap.size w w' → Calls Try.prog 8 #[.slice va m cap] w' fun e w'' => (∃ v', e = .returned (.tuple #[.agg #[.int .i64 0, .int .i64 0], v', .int .i64 5]) ∧ OwnI w'' w'.heap.size v' (ints [])) ∧ Below w'.heap.size w' w'') := P1
    clear pc hA P2 P3
    go_enter Try.func4, Try.ntmps4
    go_wp2_with fail
    refine (AW.out _).mono ?_
    rintro e w1 ⟨rfl, hb⟩
    have B1 := Lib.hid hb
    clear hb AW
    go_wp2_with fail
    refine (P1.out _ B1.out).mono ?_
    rintro e w2 ⟨⟨tv, rfl, oa⟩, hb⟩
    have B2 := Lib.hid (balloc (bstep B1.out hb) (.cells #[.int .i64 0, .int .i64 0] 27))
    obtain ⟨ta, tc, etv⟩ := oa.form
    rw [show (ints []).length = 0 from rfl] at etv
    subst etv
    clear hb B1 P1 oa
    go_wp2_with fail
    go_ret
    exact ⟨rfl, B2.out⟩
  · rw [hA] at P1
    replace P1 : Hid (∀ w', Below w.heap.size w w' → Calls Try.prog 8 #[v] w' fun e w'' => (∃ v', e = .returned (.tuple #[.agg #[.int .i64 lo, .int .i64 hi], v', .int .i64 0]) ∧ OwnI w'' w'.heap.size v' (ints (tru L lo hi L.length))) ∧ Below w'.heap.size w' w'') := P1
    have OK := Lib.hid ok
    have le := IS.le
    obtain ⟨ck, ne⟩ := tru_ok ok IS
    have NE := Lib.hid ne
    have most := tru_most ok IS
    have TLT := Lib.hid (fun n (hn : n ∈ tru L lo hi L.length) => tru_lt hn)
    have TND := Lib.hid (tru_nodup L lo hi L.length)
    have CZ := Lib.hid (clE_tru ok TLT.out TND.out ne)
    have TM := Lib.hid (fun i c (h : L[i]? = some c) (q : Vo.mt lo hi c = true) => tru_mem (m := lo) (M := hi) (List.getElem?_eq_some_iff.1 h).1 h q)
    have tl := tru_len L lo hi L.length
    have AM := Lib.hid (fun w' av N (q : Below w.heap.size w w') (h : Is w' av (ints N)) hn2 hN2 hne2 t2 ht2 => among_c (v := v) (t := t2) (hC.below q) h hN' hn2 hN2 hne2 ht2)
    have l32 := ok.2
    generalize tru L lo hi L.length = T at *
    obtain ⟨va, cap, rfl, c1, c2, _⟩ := hC
    obtain ⟨m, hm⟩ : ∃ m, L.length = m := ⟨_, rfl⟩
    obtain ⟨n, hn⟩ : ∃ n, T.length = n := ⟨_, rfl⟩
    have HM := Lib.hid hm
    have HN := Lib.hid hn
    rw [hm] at HS P1 P2 P3 AM c1 most tl l32 hN hN' ⊢
    rw [hn] at most tl
    have m0 : (0 : Int) ≤ (m : Int) := by omega
    have m1 : (m : Int) ≤ 32 := by omega
    have m2 : (m : Int) ≤ (cap : Int) := by omega
    have m3 : (cap : Int) ≤ 9223372036854775807 := by omega
    have n0 : (0 : Int) < (n : Int) := by omega
    have n1 : (n : Int) ≤ 32 := by omega
    have w2n : IntKind.i64.wrap (2 * (n : Int)) = 2 * (n : Int) := wrap_in (by omega) (by omega)
    have d1 : decide (2 * (n : Int) ≤ (m : Int)) = false := decide_eq_false (by omega)
    have d2 : decide (2 * n ≤ m) = false := decide_eq_false (by omega)
    have d3 : decide (hi < lo) = false := decide_eq_false (by omega)
    clear pc hA ok IS ck ne hm hn g1
    go_enter Try.func4, Try.ntmps4
    go_wp2_with fail
    refine (AW.out _).mono ?_
    rintro e w1 ⟨rfl, hb⟩
    have B1 := Lib.hid hb
    clear hb AW
    go_wp2_with fail
    refine (P1.out _ B1.out).mono ?_
    rintro e w2 ⟨⟨tv, rfl, oa⟩, hb⟩
    have B2 := Lib.hid (balloc (bstep B1.out hb) (.cells #[.int .i64 lo, .int .i64 hi] 27))
    have N2 := Lib.hid (new2 w2 lo hi 27)
    have A2 := Lib.hid (oa.is.below (balloc (brefl w2) (.cells #[.int .i64 lo, .int .i64 hi] 27)))
    obtain ⟨ta, tc, etv, p1, p2, _⟩ := oa.is
    rw [ints_len, HN.out] at etv p1
    subst etv
    have n2 : (n : Int) ≤ (tc : Int) := by omega
    have n3 : (tc : Int) ≤ 9223372036854775807 := by omega
    obtain ⟨b5, hb5⟩ : ∃ b, w2.heap.size = b := ⟨_, rfl⟩
    rw [hb5] at N2
    clear hb B1 P1 oa
    go_upto_region 4 with fail
    try rw [hb5]
    clear hb5
    generalize w2.alloc (.cells #[.int .i64 lo, .int .i64 hi] 27) = w3 at *
    obtain ⟨z0, z1⟩ := blk2 N2.out (brefl w3)
    go_upto_region 8 with fail
    obtain ⟨ib, hib⟩ : ∃ b, (decide (lo ≤ t) && decide (t ≤ hi)) = b := ⟨_, rfl⟩
    have IB := Lib.hid hib
    go_cut [8] from 57 to 66 (fun bv wx => bv = .bool ib ∧ wx = w3)
    case first =>
      cases e1 : decide (lo ≤ t) with
      | true =>
        cases e2 : decide (t ≤ hi) with
        | true =>
          have zz : ib = true := by rw [← hib, e1, e2]; rfl
          clear hib
          subst zz
          go_wp2_with fail
          go_meet
          exact ⟨rfl, rfl⟩
        | false =>
          have zz : ib = false := by rw [← hib, e1, e2]; rfl
          clear hib
          subst zz
          go_wp2_with fail
          go_meet
          exact ⟨rfl, rfl⟩
      | false =>
        have zz : ib = false := by rw [← hib, e1]; rfl
        clear hib
        subst zz
        go_wp2_with fail
        go_meet
        exact ⟨rfl, rfl⟩
    obtain ⟨rfl, rfl⟩ := hcut
    rename World => w3
    clear hib z0 z1
    go_wp2_with fail
    go_loopw [9, 10, 11, 12] (fun iv _ _ _ wr => ∃ i : Nat, i ≤ m ∧ iv = .int .i64 (i : Nat) ∧ Below w3.heap.size w3 wr) (fun iv _ _ _ _ => m - (intOf iv).toNat)
    case atStart => exact ⟨0, by omega, rfl, brefl w3⟩
    case round =>
      obtain ⟨i, hi', rfl, hb⟩ := hrel
      rename World => wr
      have BR := Lib.hid hb
      clear hb
      by_cases ci : i < m
      · have e1 : decide ((i : Int) < (m : Int)) = true := decide_eq_true (by omega)
        have e2 : decide (i < m) = true := decide_eq_true ci
        have i1 : (i : Int) < (m : Int) := by omega
        have i0 : (0 : Int) ≤ (i : Int) := by omega
        have wi : IntKind.i64.wrap ((i : Int) + 1) = (i : Int) + 1 := wrap_in (by omega) (by omega)
        obtain ⟨x, hx⟩ : ∃ x, L[i]? = some x := ⟨_, List.getElem?_eq_getElem (by rw [HM.out]; exact ci)⟩
        obtain ⟨k1, k2, k3, k4, k5, k6⟩ := sp_in (OK.out.1 x (List.mem_of_getElem? hx))
        have TI := Lib.hid (TM.out i x hx)
        obtain ⟨b, off, rfl, y0, y1, y2, y3⟩ := (HS.out.below (bstep B2.out BR.out)).at hx
        clear hx
        obtain ⟨xo, xd, xj, xs⟩ := x
        simp only at y0 y1 y2 y3 k1 k2 k3 k4 k5 k6
        obtain ⟨xl, hxl⟩ : ∃ z, xo - xd = z := ⟨_, rfl⟩
        obtain ⟨xh, hxh⟩ : ∃ z, xo + xd = z := ⟨_, rfl⟩
        have MT : Hid (Vo.mt lo hi ⟨xo, xd, xj, xs⟩ = (decide (xl ≤ hi) && decide (lo ≤ xh))) := Lib.hid (by unfold Vo.mt; rw [← hxl, ← hxh])
        rw [hxl] at k1
        rw [hxh] at k2
        obtain ⟨hbv, hhb⟩ : ∃ b, (decide (xl ≤ t) && decide (t ≤ xh)) = b := ⟨_, rfl⟩
        have HB := Lib.hid hhb
        clear k3 k4 k5 k6
        go_upto_region 12 with fail
        go_cut [10] from 67 to 123 (fun bv wx => bv = .bool hbv ∧ Below w3.heap.size w3 wx)
        case first =>
          cases e3 : decide (xl ≤ t) with
          | true =>
            cases e4 : decide (t ≤ xh) with
            | true =>
              have zz : hbv = true := by rw [← hhb, e3, e4]; rfl
              clear hhb
              subst zz
              go_quiet (fail)
              go_wp2_with fail
              go_meet
              exact ⟨rfl, bdrew BR.out _⟩
            | false =>
              have zz : hbv = false := by rw [← hhb, e3, e4]; rfl
              clear hhb
              subst zz
              go_quiet (fail)
              go_wp2_with fail
              go_meet
              exact ⟨rfl, bdrew BR.out _⟩
          | false =>
            have zz : hbv = false := by rw [← hhb, e3]; rfl
            clear hhb
            subst zz
            go_quiet (fail)
            go_wp2_with fail
            go_meet
            exact ⟨rfl, bdrew BR.out _⟩
        obtain ⟨rfl, hb⟩ := hcut
        rename World => wa
        have BA := Lib.hid hb
        clear hb hhb y0 y1 y2 y3 k1 k2 hxl hxh
        go_wp2_with fail
        go_loopw [11, 12] (fun hv kv wx => ∃ k : Nat, k ≤ n ∧ kv = .int .i64 (k : Nat) ∧ hv = .bool (decide (i ∈ T.take k)) ∧ Below w3.heap.size w3 wx) (fun _ kv _ => n - (intOf kv).toNat)
        case atStart => exact ⟨0, by omega, rfl, by simp, BA.out⟩
        case round =>
          obtain ⟨k, hk, rfl, rfl, hb⟩ := hrel
          rename World => wx
          have BX := Lib.hid hb
          clear hb
          by_cases c : k < n
          · have f1 : decide ((k : Int) < (n : Int)) = true := decide_eq_true (by omega)
            have f2 : decide (k < n) = true := decide_eq_true c
            have k1 : (k : Int) < (n : Int) := by omega
            have k0 : (0 : Int) ≤ (k : Int) := by omega
            have wk : IntKind.i64.wrap ((k : Int) + 1) = (k : Int) + 1 := wrap_in (by omega) (by omega)
            obtain ⟨y, hy⟩ : ∃ y, T[k]? = some y := ⟨_, List.getElem?_eq_getElem (by rw [HN.out]; exact c)⟩
            have MM := Lib.hid (mem_more hy i)
            obtain ⟨sb, so, ea, z0⟩ := (A2.out.below BX.out).at (Vo.ints_at hy)
            subst ea
            clear hy
            obtain ⟨q, hq⟩ : ∃ q, decide (i ∈ T.take k) = q := ⟨_, rfl⟩
            rw [hq] at MM ⊢
            clear hq
            cases q with
            | true =>
              rw [Bool.true_or] at MM
              go_wp2_with fail
              exact ⟨⟨k + 1, by omega, by go_num, by rw [MM.out], BX.out⟩, by simp [intOf]; omega⟩
            | false =>
              rw [Bool.false_or] at MM
              by_cases yi : y = i
              · have f3 : ((y : Int) == (i : Int)) = true := by simp [yi]
                have f4 : (y == i) = true := by simp [yi]
                rw [decide_eq_true yi] at MM
                go_wp2_with fail
                exact ⟨⟨k + 1, by omega, by go_num, by rw [MM.out], BX.out⟩, by simp [intOf]; omega⟩
              · have f3 : ((y : Int) == (i : Int)) = false := by simp; omega
                have f4 : (y == i) = false := by simpa using yi
                rw [decide_eq_false yi] at MM
                go_wp2_with fail
                exact ⟨⟨k + 1, by omega, by go_num, by rw [MM.out], BX.out⟩, by simp [intOf]; omega⟩
          · have f1 : decide ((k : Int) < (n : Int)) = false := decide_eq_false (by omega)
            have f2 : decide (k < n) = false := decide_eq_false c
            obtain rfl : k = n := by omega
            have TK : Hid (ib = true → hbv = true → decide (i ∈ T.take k) = true) := Lib.hid fun a1 a2 => by
              rw [List.take_of_length_le (by rw [HN.out]; exact Nat.le_refl _)]
              have p := IB.out
              have r := HB.out
              rw [a1] at p
              rw [a2] at r
              simp at p r
              refine decide_eq_true (TI.out ?_)
              rw [MT.out]
              simp
              omega
            generalize decide (i ∈ T.take k) = q at *
            cases ib with
            | false =>
              go_wp2_with fail
              exact ⟨⟨i + 1, by omega, by go_num, BX.out⟩, by simp [intOf]; omega⟩
            | true =>
              cases hbv with
              | false =>
                go_wp2_with fail
                exact ⟨⟨i + 1, by omega, by go_num, BX.out⟩, by simp [intOf]; omega⟩
              | true =>
                obtain rfl := TK.out rfl rfl
                go_wp2_with fail
                exact ⟨⟨i + 1, by omega, by go_num, BX.out⟩, by simp [intOf]; omega⟩
      · have e1 : decide ((i : Int) < (m : Int)) = false := decide_eq_false (by omega)
        have e2 : decide (i < m) = false := decide_eq_false ci
        obtain rfl : i = m := by omega
        have B5 := Lib.hid (bstep B2.out BR.out)
        have A5 := A2.out.below BR.out
        have PC1 := Lib.hid (P2.out wr _ _ B5.out A5 (by rw [ints_len, HN.out]; omega))
        unfold KP at PC1
        rw [CZ.out] at PC1
        clear TM
        go_wp2_with fail
        refine PC1.out.mono ?_
        rintro e w6 ⟨⟨cv, C, rfl, oc, _, k2⟩, hb⟩
        have SV := k2 (by first | trivial | rfl) T rfl
        obtain ⟨s1, s2, s3, s4⟩ := SV.sub TND.out
        rw [HN.out] at s3 s4
        have cne : C ≠ [] := fun q => by rw [q] at s3; simp at s3; omega
        have B6 := Lib.hid (bstep B5.out hb)
        have CL : Hid (∀ n ∈ C, n < L.length) := Lib.hid fun x hx => TLT.out x (s1 x hx)
        obtain ⟨ct, cj, ce, cj0, cin⟩ := co_sure OK.out CL.out s2 cne
        have PB1 := Lib.hid (P3.out w6 _ _ B6.out oc.is (by rw [ints_len]; omega))
        rw [ce] at PB1
        have CI := Lib.hid oc.is
        have AI := Lib.hid (fun w' (q : Below w6.heap.size w6 w') => AM.out w' cv C (bstep B6.out q) (CI.out.below q) (by omega) (fun x hx => by have := CL.out x hx; rw [HM.out] at this; exact this) cne ct cin)
        obtain ⟨ca, cc, ecv, r1, r2, _⟩ := oc.is
        obtain ⟨c, hc⟩ : ∃ c, C.length = c := ⟨_, rfl⟩
        rw [ints_len, hc] at ecv r1
        rw [hc] at s3 s4
        subst ecv
        have g1 : min 3 (n : Int) ≤ (c : Int) := by omega
        have g2 := decide_eq_true g1
        have g3 : (c : Int) ≤ (n : Int) := by omega
        have g4 := decide_eq_true g3
        have dj := decide_eq_true cj0
        clear hb oc k2 SV s1 s2 ce cin hc PC1 P2 P3 AM
        go_wp2_with fail
        refine PB1.out.mono ?_
        rintro e w7 ⟨rfl, hb⟩
        have B7 := Lib.hid (bstep B6.out hb)
        have A7 := Lib.hid (AI.out w7 hb)
        clear hb PB1 AI
        rcases Int.lt_or_le (n : Int) 3 with cm | cm
        · have dm := decide_eq_true cm
          rw [Int.min_eq_right (by omega)] at g1 g2
          have g5 : n < 3 ∨ 3 ≤ n := by omega
          go_wp2_with fail
          refine A7.out.mono ?_
          rintro e w8 ⟨rfl, hb⟩
          have B8 := Lib.hid (bstep B7.out hb)
          clear hb
          go_wp2_with fail
          go_ret
          exact ⟨rfl, B8.out⟩
        · have dm : decide ((n : Int) < 3) = false := decide_eq_false (by omega)
          rw [Int.min_eq_left (by omega)] at g1 g2
          have g5 : n < 3 ∨ 3 ≤ n := by omega
          go_wp2_with fail
          refine A7.out.mono ?_
          rintro e w8 ⟨rfl, hb⟩
          have B8 := Lib.hid (bstep B7.out hb)
          clear hb
          go_wp2_with fail
          go_ret
          exact ⟨rfl, B8.out⟩
set_option maxRecDepth 100000 in
theorem lifted (os : Os) (started : os.Started) (H : Type) (enc : TypeId × Value → H) :
    ReturnsInHanded {} Try.checked os 4 .any (Rows.voteSureSpec.pre6 enc Try.prog Try.f4 Rows.voteSureRow.domain false) (Rows.voteSureSpec.post enc Try.prog Try.f4 false true false false) := by
  refine returnsInHanded_of_change_sized (C := Try.checked) own started (by kernel_rfl) Try.func4
    (ChangeSpec.witness6 (enc := enc) (C := Try.checked) false ⟨#[], #[.slice none 0 0, .int .i64 0], []⟩ 8 (by kernel_rfl) (by kernel_rfl) (by kernel_rfl) (by kernel_rfl)) ?_
  intro W base args ds gs before hval0 hW hcnd hsz0 _
  have hsz : (DataW.weightsEach Try.prog (Try.f4.params.toList ++ Rows.voteSureSpec.plain.varTypes Try.prog) (ds ++ gs)).all (· ≤ reachBytes) = true := hsz0
  have hval : ∀ (j : Nat) t v, Try.f4.params[j]? = some t → args[j]? = some v → Value.okWide Try.prog W .any base t v := hval0
  have hW' := hW
  obtain ⟨p, q, hA0, hV, rfl, hfz, hnd⟩ := hW
  have hA : DataW.TrodAll enc Try.prog W 0 (fun _ => true) true Try.f4.params.toList args.toList ds p := hA0
  rw [Try.params4] at hA hval hsz
  obtain ⟨v0, vs0, d0, ds0, p0, q0, hargs, rfl, rfl, h0, r0⟩ := trodAll_cons hA
  obtain ⟨v1, vs1, d1, ds1, p1, q1, rfl, rfl, rfl, h1, r1⟩ := trodAll_cons r0
  obtain ⟨rfl, rfl, rfl⟩ := trodAll_nil r1
  obtain rfl : args = #[v0, v1] := by cases args; simp_all
  obtain ⟨rfl, rfl⟩ := trodVars_none hV
  have h0k := h0
  have hlt0 : ∀ x ∈ p0, x.block < W.heap.size := fun x hx => by have := hW'.lt x (by simp [hx]); simpa using this
  have hb0 : ∀ es sp, d0 = .slice es sp → (es.length + sp.length) * Try.prog.bytesOf 44 ≤ reachBytes := by
    intro es sp he
    exact sized_slice hsz (j := 0) (t := 22) (e := 44) rfl (by rw [he]; rfl) Try.underlying22
  have h1k := h1
  have hlt1 : ∀ x ∈ p1, x.block < W.heap.size := fun x hx => by have := hW'.lt x (by simp [hx]); simpa using this
  obtain ⟨L0, g0⟩ := open_cds (hval 0 22 v0 rfl rfl) h0 hb0
  obtain ⟨z1, rfl, _, _, g1⟩ := open_int Try.underlying25 (hval 1 25 v1 rfl rfl) h1
  clear hA0 hval0
  simp only [List.append_nil] at hW'
  refine (walk pc v0 L0 z1 W g0 g1).mono fun e W' ⟨he, hg⟩ => ?_
  subst he
  exact ⟨_, rfl, _, _, _, [], _, [], hW', trodAll_cons_mk (shut_bool Try.underlying4 _) trodAll_mk0,
    (trodAll_cons_mk (Below.trod laidOut (by kernel_rfl) (of_decide_eq_true (by kernel_rfl)) h0k hg hlt0) (trodAll_cons_mk (Below.trod laidOut (by kernel_rfl) (of_decide_eq_true (by kernel_rfl)) h1k hg hlt1) trodAll_mk0)), rfl, hg.frame _, fun h => nomatch h⟩

theorem over : Rows.voteSureRow.holds Try.pinned (OpenSpec.ofChange Rows.voteSureSpec) :=
  OpenClaim.holds_of_wide 4 Try.f4 rfl rfl rfl rfl rfl rfl rfl ⟨rfl, rfl, rfl, rfl, rfl⟩ rfl rfl rfl rfl rfl (by kernel_rfl) Try.func4 (by kernel_rfl)
    (of_decide_eq_true (by kernel_rfl)) (by unfold Func.isWrapper; first | (rw [if_pos (by decide +kernel)]; kernel_rfl) | (rw [if_neg (by decide +kernel)]; exact ⟨rfl, rfl⟩))
    (fun os started H enc _ => lifted os started H enc)

theorem proved : Rows.VoteSureSaid :=
  over
end Go.Proofs.Ytkmbeogmgehnfaa.voteSure
