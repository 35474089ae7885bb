/-
  slices.Delete at a row of numbers of the call's own; the program's Cluster.
  Conditions: none but that the candidates and the numbers lie in memory.
-/
import Derived.Test.YtkmbeogmgehnfaaVpF
import Derived.Test.YtkmbeogmgehnfaaVpH
import Derived.Test.YtkmbeogmgehnfaaVpJ
import Derived.Shelf.SlicesG.Delete
namespace Go.Proofs.Ytkmbeogmgehnfaa.Vo
open Go.Shelf Go.RowKit Go.ChangeShapes Go.WideShapes Go.ChangeAt Go.Joins Fl Hu
set_option linter.unusedVariables false
set_option linter.unusedSimpArgs false

theorem ints_erase (R : List Nat) (i : Nat) : ints (R.eraseIdx i) = (ints R).take i ++ (ints R).drop (i + 1) := by
  unfold ints
  rw [← List.map_take, ← List.map_drop, ← List.map_append, List.eraseIdx_eq_take_drop_succ]
theorem Delete_c {w : World} {base g n cap : Nat} {R : List Nat} (ho : OwnI w base (.slice (some ⟨g, 0, none⟩) n cap) (ints R)) (hn : R.length = n) (hbs : base ≤ w.heap.size) (i : Nat) (hi : i < n) :
    Calls Try.prog 27 #[.slice (some ⟨g, 0, none⟩) n cap, .int .i64 (i : Nat), .int .i64 ((i : Int) + 1)] w fun e w' => e = .returned (.slice (some ⟨g, 0, none⟩) (n - 1) cap) ∧ OwnI w' base (.slice (some ⟨g, 0, none⟩) (n - 1) cap) (ints (R.eraseIdx i)) ∧ Below base w w' := by
  have il : (ints R).length = n := by rw [ints_len, hn]
  rcases ho.2 with ⟨hv, _⟩ | ⟨g', c', cur, hv, hbase, hgb, r1, r2, r3, r4⟩
  · cases hv
  simp only [Value.slice.injEq, Option.some.injEq, Addr.mk.injEq, and_true, true_and] at hv
  obtain ⟨rfl, rfl⟩ : g = g' ∧ cap = c' := by
    refine ⟨hv.1, ?_⟩
    have := hv.2
    omega
  have hH : Go.Sort.Holds (Value.int .i64) w g 0 (ints R).toArray := Go.holds_of_blockI hgb (by simpa [ct] using r4)
  have hcon := AnyG.slices_Delete_int deleteI g 0 cap i (i + 1) (ints R) w hH r1 (by unfold maxLen at r2; omega) (Nat.le_succ _) (by omega)
  change Calls Try.prog 27 _ _ _ at hcon
  rw [il, show ((i + 1 : Nat) : Int) = (i : Int) + 1 by omega, show n - (i + 1 - i) = n - 1 by omega, show i + 1 - i = 1 by omega] at hcon
  refine hcon.mono ?_
  rintro e w' ⟨rfl, q, rfl⟩
  have fl : (((ints R).take i ++ (ints R).drop (i + 1) ++ List.replicate 1 0).length) = n := by simp; omega
  have hg := Go.heap_sortedI (n := q) (os := #[]) (((ints R).take i ++ (ints R).drop (i + 1) ++ List.replicate 1 0).toArray) hgb
  rw [Go.Sort.grow_empty] at hg
  have hgr := Go.grownBy_sortedI (w := w) (g := g) (n := q) (os := #[]) (((ints R).take i ++ (ints R).drop (i + 1) ++ List.replicate 1 0).toArray)
  rw [Go.Sort.grow_empty] at hgr
  have tk := Go.take_putCellsI cur ((ints R).take i ++ (ints R).drop (i + 1) ++ List.replicate 1 0) (by rw [fl]; omega)
  rw [fl] at tk
  have el : (ints (R.eraseIdx i)).length = n - 1 := by rw [ints_erase]; simp; omega
  refine ⟨rfl, ⟨by unfold ct; rw [List.length_map, Nat.mul_one], .inr ⟨g, cap, _, by rw [el], hbase, hg, by omega, r2, by simp [Go.Sort.putCells, r3], ?_⟩⟩, (Below.refl base w).grown hgr hbs (fun j hj => by cases hj; exact hbase)⟩
  rw [Nat.mul_one, el]
  have := congrArg (List.take (n - 1)) tk
  rw [List.take_take, Nat.min_eq_left (by omega)] at this
  rw [this, ints_erase, ← List.map_take, List.take_append_of_le_length (by simp; omega), List.take_of_length_le (by simp; omega)]
  rfl
set_option maxRecDepth 100000 in
set_option maxHeartbeats 8000000 in
theorem Cluster_c {w : World} {v sv : Value} {L : List Cd} {S : List Int} (h : Cs w v L) (hs : Is w sv S) (hn : L.length ≤ 8796093022208) (hn2 : S.length ≤ 35184372088832) :
    Calls Try.prog 10 #[v, sv] w fun e w' => KP w L S e w' ∧ Below w.heap.size w w' := by
  have CK := Lib.hid (check_c h hs hn hn2)
  by_cases z : clE L S = 0
  · obtain ⟨z1, z2⟩ := clE_zero z
    obtain ⟨ok, N, rfl, hN, nd⟩ := chE_ok z1
    have CE := Lib.hid z
    rw [z] at CK
    have np : 0 < N.length := List.length_pos_iff.2 fun q => z2 (by rw [q]; rfl)
    have n32 : N.length ≤ 32 := Nat.le_trans (nodup_le hN nd) ok.2
    have SC := Lib.hid (fun w' (b : Below w.heap.size w w') => sorted_c (h.below b) (hs.below b) ok hN nd np)
    have FA := Lib.hid (fun w' (b : Below w.heap.size w w') (sv : Value) (R : List Nat) (hs : Is w' sv (ints R)) (hV : ∀ n ∈ R, n < L.length) (h1 : 1 < R.length) (h2 : R.length ≤ 32) => farthest_c (h.below b) hs ok hV h1 h2)
    have LE := Lib.hid (fun w' (b : Below w.heap.size w w') (sv : Value) (R : List Nat) (hs : Is w' sv (ints R)) (hV : ∀ n ∈ R, n < L.length) (h1 : 1 < R.length) (h2 : R.length ≤ 32) => leastJitter_c (h.below b) hs ok hV h1 h2)
    have FIN : Hid (∀ (w' : World) (u : Value) (T0 R : List Nat), Srt L N T0 → Red L T0 R → OwnI w' w.heap.size u (ints R) → KP w L (ints N) (.returned (.tuple #[u, .int .i64 0])) w') := Lib.hid fun w' u T0 R st rd ho =>
      ⟨u, R, by rw [z], ho, fun q => absurd z q, fun _ N' e => by obtain rfl := ints_inj e; exact ⟨T0, st, rd⟩⟩
    have ML : Hid (∀ T0, Srt L N T0 → T0.length ≤ 32 ∧ ∀ y ∈ T0, y < L.length) := Lib.hid fun T0 st => ⟨by rw [st.1.length_eq]; exact n32, fun y hy => hN y (st.1.mem_iff.1 hy)⟩
    obtain ⟨a, cap, rfl, _⟩ := h
    obtain ⟨sa, sc, rfl, _⟩ := hs
    generalize L.length = m at *
    rw [ints_len] at *
    generalize N.length = n at *
    clear ok hN nd z z1 z2
    go_enter Try.func10, Try.ntmps10
    go_wp2_with fail
    refine CK.out.mono ?_
    rintro e w1 ⟨rfl, hb⟩
    have B1 := Lib.hid hb
    clear hb CK
    go_wp2_with fail
    refine (SC.out _ B1.out).mono ?_
    rintro e w2 ⟨⟨u, T0, rfl, st, ho⟩, hb⟩
    have B2 := Lib.hid (bstep B1.out hb)
    have O2 := Lib.hid (ho.mono B1.out.size)
    have ST := Lib.hid st
    obtain ⟨t32, tV⟩ := ML.out T0 st
    have TV := Lib.hid tV
    clear hb ho st SC tV ML
    go_wp2_with fail
    go_loopw [7, 8, 9] (fun tv _ _ wr => ∃ R : List Nat, OwnI wr w.heap.size tv (ints R) ∧ (∀ t, Red L R t → Red L T0 t) ∧ (∀ y ∈ R, y < m) ∧ R.length ≤ 32 ∧ Below w.heap.size w wr) (fun tv _ _ _ => lenOf tv)
    case atStart => exact ⟨T0, O2.out, fun t q => q, TV.out, t32, B2.out⟩
    case round =>
      obtain ⟨R, hR, hRed, hV, h32, hb⟩ := hrel
      rename World => wr
      have RW := Lib.hid hR
      have RD := Lib.hid hRed
      have RV := Lib.hid hV
      have HB := Lib.hid hb
      obtain ⟨ra, rc, erv⟩ := hR.form
      obtain ⟨r, hr⟩ : ∃ r, R.length = r := ⟨_, rfl⟩
      have HRL := Lib.hid hr
      rw [ints_len, hr] at erv
      subst erv
      rw [hr] at h32
      have r1 : (r : Int) ≤ 32 := by omega
      have r0 : (0 : Int) ≤ (r : Int) := by omega
      clear hR hRed hV hb hr TV B2 O2
      by_cases c3 : 3 < r
      · have d1 : decide ((3 : Int) < (r : Int)) = true := decide_eq_true (by omega)
        have d2 : decide (3 < r) = true := decide_eq_true c3
        have FC := Lib.hid (FA.out wr HB.out _ R RW.out.is RV.out (by rw [HRL.out]; omega) (by rw [HRL.out]; exact h32))
        go_wp2_with fail
        refine FC.out.mono ?_
        rintro e w3 ⟨⟨p, x, rfl, iw, hx⟩, hb⟩
        have pl : p < r := by rw [← HRL.out]; exact (List.getElem?_eq_some_iff.1 hx).1
        have IW := Lib.hid iw
        have HX := Lib.hid hx
        have B3 := Lib.hid (bstep HB.out hb)
        have R3 := Lib.hid (ownI_below RW.out hb)
        have LC := Lib.hid (LE.out w3 B3.out _ R R3.out.is RV.out (by rw [HRL.out]; omega) (by rw [HRL.out]; exact h32))
        clear hb iw hx FC HB RW
        go_wp2_with fail
        refine LC.out.mono ?_
        rintro e w4 ⟨rfl, rfl⟩
        clear LC
        rename World => w4
        by_cases q : sj L R x ≤ lj L R
        · have d3 := decide_eq_true q
          have KF := Lib.hid (FIN.out w4 _ T0 R ST.out (RD.out R (Red.calm (by rw [HRL.out]; exact c3) IW.out HX.out q)) R3.out)
          generalize sj L R x = s1 at *
          generalize lj L R = s2 at *
          go_wp2_with fail
          go_ret2
          exact ⟨KF.out, B3.out⟩
        · have d3 := decide_eq_false q
          have RO : Hid (∀ t, Red L (R.eraseIdx p) t → Red L T0 t) := Lib.hid fun t rt => RD.out t (Red.out (by rw [HRL.out]; exact c3) IW.out HX.out (by omega) rt)
          obtain ⟨g, gc, erv, g1, g2, g3, g4⟩ := R3.out.opens (by rw [ints_len, HRL.out]; omega)
          rw [ints_len, HRL.out] at erv
          cases erv
          have DC := Lib.hid (Delete_c R3.out HRL.out B3.out.size p pl)
          have EV : Hid (∀ y ∈ R.eraseIdx p, y < m) := Lib.hid fun y hy => RV.out y (List.mem_of_mem_eraseIdx hy)
          have EL : Hid ((R.eraseIdx p).length = r - 1) := Lib.hid (by rw [List.length_eraseIdx, HRL.out, if_pos pl])
          have wp1 : IntKind.i64.wrap ((p : Int) + 1) = (p : Int) + 1 := wrap_in (by omega) (by omega)
          generalize sj L R x = s1 at *
          generalize lj L R = s2 at *
          go_wp2_with fail
          refine DC.out.mono ?_
          rintro e w5 ⟨rfl, ho, hb⟩
          have O5 := Lib.hid ho
          have B5 := Lib.hid (B3.out.trans hb)
          clear ho hb DC
          go_wp2_with fail
          exact ⟨⟨R.eraseIdx p, O5.out, RO.out, EV.out, by rw [EL.out]; omega, B5.out⟩, by simp [lenOf]; omega⟩
      · have d1 : decide ((3 : Int) < (r : Int)) = false := decide_eq_false (by omega)
        have d2 : decide (3 < r) = false := decide_eq_false c3
        have KF := Lib.hid (FIN.out wr _ T0 R ST.out (RD.out R (Red.few (by rw [HRL.out]; omega))) RW.out)
        go_wp2_with fail
        go_ret2
        exact ⟨KF.out, HB.out⟩
  · have CE := Lib.hid z
    have KB := Lib.hid (fun w' => KP_bad (w := w) (w' := w') (rfl : clE L S = clE L S) z)
    obtain ⟨a, cap, rfl, c1, c2, _⟩ := h
    obtain ⟨sa, sc, rfl, p1, p2, _⟩ := hs
    generalize hce : clE L S = ce at *
    have cz : (ce != 0) = true := by simpa using z
    generalize L.length = m at *
    generalize S.length = n at *
    clear hce
    go_enter Try.func10, Try.ntmps10
    go_wp2_with fail
    refine CK.out.mono ?_
    rintro e w1 ⟨rfl, hb⟩
    have B1 := Lib.hid hb
    clear hb CK
    go_wp2_with fail
    go_ret2
    exact ⟨KB.out _, B1.out⟩
end Go.Proofs.Ytkmbeogmgehnfaa.Vo
