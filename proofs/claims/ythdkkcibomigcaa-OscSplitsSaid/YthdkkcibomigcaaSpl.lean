/-
  OscSplits: a span that is aged twice holds what it holds when it is aged once, and a leg cut in two counts the same: the law returns true for every input, and the input reads as it did.
  Conditions: none.
-/
import Derived.Test.YthdkkcibomigcaaRows
import Derived.Test.YthdkkcibomigcaaSplA
import Derived.SizedLaws
import Derived.Lib.SmallJoins
namespace Go.Proofs.Ythdkkcibomigcaa.oscSplits
open Go.ChangeShapes Go.WideShapes Go.ChangeAt Go.RowKit Go.Joins Go.Deep Fx
set_option linter.unusedVariables false

theorem own : ownKnob Try.prog.godebug = none := by kernel_rfl
theorem bytes_leg : Try.prog.bytesOf 45 = 16 := by kernel_rfl

/-- the value v is a way of n legs, of no more bytes than may come in. -/
def WayBig (w : World) (v : Value) (n : Nat) (X Y : Nat → Int) : Prop :=
  (n = 0 ∧ ∃ a cap, v = .slice a 0 cap) ∨ (0 < n ∧ n * 16 ≤ 140737488351232 ∧ ∃ b off cap, v = .slice (some ⟨b, off, none⟩) n cap ∧ n ≤ cap ∧ cap ≤ 9223372036854775807 ∧ Legs w b off n X Y)

theorem open_way2 {H : Type} {enc : TypeId × Value → H} {W : World} {base : Nat} {v : Value} {d : DataW H} {p : List MemPlace}
    (hv : Value.okWide Try.prog W .any base 22 v) (h : DataW.Trod enc Try.prog W 0 (fun _ => true) true 22 v d p)
    (hb : ∀ elems spare, d = .slice elems spare → elems.length * 16 ≤ 140737488351232) : ∃ n X Y, WayBig W v n X Y := by
  obtain ⟨a0, len, cap, rfl⟩ := okWide_slice Try.underlying22 hv
  obtain ⟨fuel, hf⟩ := h
  rcases open_slice_pairs Try.underlying22 Try.underlying45 wcells rfl rfl wcell0 wcell1 hf with ⟨hcs, _⟩ | ⟨a, len', cap', m, n, V0, V1, D0, D1, P0, P1, hcs, _, hl, hm, hmeq, hx, hall⟩
  · simp [Value.cells] at hcs
    obtain ⟨rfl, rfl, rfl⟩ := hcs
    exact ⟨0, fun _ => 0, fun _ => 0, Or.inl ⟨rfl, _, _, rfl⟩⟩
  · simp [Value.cells] at hcs
    obtain ⟨rfl, rfl, rfl⟩ := hcs
    simp only [if_true] at hmeq
    subst hmeq
    have hs := hb _ _ (congrArg Prod.fst hx)
    rw [List.length_map, List.length_range] at hs
    by_cases c : len = 0
    · subst c
      exact ⟨0, fun _ => 0, fun _ => 0, Or.inl ⟨rfl, _, _, rfl⟩⟩
    · have key : ∀ i, i < m → V0 i = .int .i64 (intOf (V0 i)) ∧ V1 i = .int .i64 (intOf (V1 i)) := fun i hi => by
        obtain ⟨_, _, t0, t1⟩ := hall i hi
        obtain ⟨k0, e0, _, _⟩ := DataW.trod_int Try.underlying23 t0
        obtain ⟨k1, e1, _, _⟩ := DataW.trod_int Try.underlying3 t1
        simp only [List.cons.injEq, and_true] at e0 e1
        rw [e0, e1]
        exact ⟨rfl, rfl⟩
      have sp : a.spot = none := by
        have h0 := World.cell?_spot (hall 0 (by omega)).1
        simpa [Addr.add] using h0
      obtain ⟨b, off, s⟩ := a
      simp only at sp
      subst sp
      have hblk := World.block_lt_of_cell? W _ (hall 0 (by omega)).1
      refine ⟨len, fun i => intOf (V0 i), fun i => intOf (V1 i), Or.inr ⟨by omega, hs, b, off, m, rfl, hl, by unfold maxLen at hm; omega, ?_, fun i hi => ?_⟩⟩
      · simpa [Addr.add] using hblk
      · obtain ⟨c0, c1, _, _⟩ := hall i (by omega)
        obtain ⟨k0, k1⟩ := key i (by omega)
        rw [k0] at c0
        rw [k1] at c1
        rw [add_plain] at c0 c1
        exact ⟨c0, by rw [Nat.add_assoc]; exact c1⟩

set_option maxRecDepth 100000 in
set_option maxHeartbeats 4000000 in
theorem walk_none (a : Option Addr) (cap : Nat) (at' lo hi d more rho : Int) (w : World) (h : True) :
    Calls Try.prog 6 #[.slice a 0 cap, .int .i64 at', .agg #[.int .i64 lo, .int .i64 hi], .int .i64 d, .int .i64 more, .int .i64 rho] w fun e w' => e = .returned (.bool true) ∧ Below w.heap.size w w' := by
  have L := Lib.hid h
  clear h
  go_enter Try.func6, Try.ntmps6
  go_wp2_with fail
  refine (awake2_c _).mono ?_
  rintro e w1 ⟨rfl, hb⟩
  have A1 := Lib.hid ((Sq.new w lo hi).below hb)
  have HB1 := Lib.hid (bstep (balloc (brefl w) _) hb)
  clear hb
  go_wp2_with fail
  refine (Check2_none a cap _).mono ?_
  rintro e w2 ⟨rfl, hb⟩
  have A := Lib.hid (A1.out.below hb)
  have HB := Lib.hid (bstep HB1.out hb)
  clear hb A1 HB1
  go_wp2_with fail
  refine (into_c _ _ _ (by omega) (by omega)).mono ?_
  rintro e w5 ⟨⟨u, u1, u2, rfl⟩, rfl⟩
  go_wp2_with fail
  refine (into_c _ _ _ (by omega) (by omega)).mono ?_
  rintro e w5 ⟨⟨v, v1, v2, rfl⟩, rfl⟩
  by_cases cs : okS lo hi
  · have S := Lib.hid cs
    clear cs
    by_cases cr : 0 ≤ rho ∧ rho ≤ 1000
    · obtain ⟨p1, p2⟩ := cr
      have HF := Lib.hid (age_half S.out u1 p1 p2)
      have M := age_twice S.out u1 u2 v1 v2 p1 p2
      obtain ⟨L3, E1⟩ : ∃ x, shl lo (elLo (u + v) rho) = x := ⟨_, rfl⟩
      obtain ⟨U3, E2⟩ : ∃ x, shh hi (elHi (u + v) rho) = x := ⟨_, rfl⟩
      obtain ⟨L1, E3⟩ : ∃ x, shl lo (elLo u rho) = x := ⟨_, rfl⟩
      obtain ⟨U1, E4⟩ : ∃ x, shh hi (elHi u rho) = x := ⟨_, rfl⟩
      rw [E3, E4] at HF
      rw [E1, E2, E3, E4] at M
      obtain ⟨L2, E5⟩ : ∃ x, shl L1 (elLo v rho) = x := ⟨_, rfl⟩
      obtain ⟨U2, E6⟩ : ∃ x, shh U1 (elHi v rho) = x := ⟨_, rfl⟩
      rw [E5, E6] at M
      obtain ⟨M1, M2⟩ := M
      have m1 : decide (L2 ≤ L3) = true := decide_eq_true M1
      have m2 : decide (U3 ≤ U2) = true := decide_eq_true M2
      obtain ⟨a1, a2, a3, a4, a5⟩ := A.out
      go_wp2_with fail
      clear a1 a2 a3 a4 a5
      refine (Age_ok _ _ _ _ _ S.out (by omega) p1 p2).mono ?_
      rintro e w6 ⟨rfl, hb⟩
      rw [E1, E2]
      have A6 := Lib.hid ((A.out.below hb).alloc (.cells #[.int .i64 (L3), .int .i64 (U3)] 34))
      have O6 := Lib.hid (Sq.new w6 (L3) (U3))
      have HB6 := Lib.hid (balloc (bstep HB.out hb) (.cells #[.int .i64 (L3), .int .i64 (U3)] 34))
      clear hb A HB
      obtain ⟨a1, a2, a3, a4, a5⟩ := A6.out
      go_wp2_with fail
      clear a1 a2 a3 a4 a5
      refine (Age_ok _ _ _ _ _ S.out u1 p1 p2).mono ?_
      rintro e w7 ⟨rfl, hb⟩
      rw [E3, E4]
      have O7 := Lib.hid ((O6.out.below hb).alloc (.cells #[.int .i64 (L1), .int .i64 (U1)] 34))
      have H7 := Lib.hid (Sq.new w7 (L1) (U1))
      have HB7 := Lib.hid (balloc (bstep HB6.out hb) (.cells #[.int .i64 (L1), .int .i64 (U1)] 34))
      clear hb A6 O6 HB6
      obtain ⟨a1, a2, a3, a4, a5⟩ := H7.out
      go_wp2_with fail
      clear a1 a2 a3 a4 a5
      refine (Age_ok _ _ _ _ _ HF.out v1 p1 p2).mono ?_
      rintro e w8 ⟨rfl, hb⟩
      rw [E5, E6]
      have O8 := Lib.hid (O7.out.below hb)
      have HB8 := Lib.hid (bstep HB7.out hb)
      clear hb O7 H7 HB7
      obtain ⟨a1, a2, a3, a4, a5⟩ := O8.out
      go_wp2_with fail
      go_ret
      exact ⟨rfl, balloc HB8.out _⟩
    · have R : Hid (¬ (0 ≤ rho ∧ rho ≤ 1000)) := cr
      clear cr
      obtain ⟨a1, a2, a3, a4, a5⟩ := A.out
      go_wp2_with fail
      clear a1 a2 a3 a4 a5
      refine (Age_range _ _ _ _ _ S.out (fun g => R.out g.2)).mono ?_
      rintro e w6 ⟨rfl, hb⟩
      have A6 := Lib.hid ((A.out.below hb).alloc (.cells #[.int .i64 (0), .int .i64 (0)] 34))
      have O6 := Lib.hid (Sq.new w6 (0) (0))
      have HB6 := Lib.hid (balloc (bstep HB.out hb) (.cells #[.int .i64 (0), .int .i64 (0)] 34))
      clear hb A HB
      obtain ⟨a1, a2, a3, a4, a5⟩ := A6.out
      go_wp2_with fail
      clear a1 a2 a3 a4 a5
      refine (Age_range _ _ _ _ _ S.out (fun g => R.out g.2)).mono ?_
      rintro e w7 ⟨rfl, hb⟩
      have O7 := Lib.hid ((O6.out.below hb).alloc (.cells #[.int .i64 (0), .int .i64 (0)] 34))
      have H7 := Lib.hid (Sq.new w7 (0) (0))
      have HB7 := Lib.hid (balloc (bstep HB6.out hb) (.cells #[.int .i64 (0), .int .i64 (0)] 34))
      clear hb A6 O6 HB6
      obtain ⟨a1, a2, a3, a4, a5⟩ := H7.out
      go_wp2_with fail
      clear a1 a2 a3 a4 a5
      refine (Age_range _ _ _ _ _ (by unfold okS; omega) (fun g => R.out g.2)).mono ?_
      rintro e w8 ⟨rfl, hb⟩
      have O8 := Lib.hid (O7.out.below hb)
      have HB8 := Lib.hid (bstep HB7.out hb)
      clear hb O7 H7 HB7
      obtain ⟨a1, a2, a3, a4, a5⟩ := O8.out
      go_wp2_with fail
      go_ret
      exact ⟨rfl, balloc HB8.out _⟩
  · have S := Lib.hid cs
    clear cs
    by_cases cr : 0 ≤ rho ∧ rho ≤ 1000
    · obtain ⟨p1, p2⟩ := cr
      obtain ⟨a1, a2, a3, a4, a5⟩ := A.out
      go_wp2_with fail
      clear a1 a2 a3 a4 a5
      refine (Age_shape _ _ _ _ _ S.out).mono ?_
      rintro e w6 ⟨rfl, hb⟩
      have A6 := Lib.hid ((A.out.below hb).alloc (.cells #[.int .i64 (0), .int .i64 (0)] 34))
      have O6 := Lib.hid (Sq.new w6 (0) (0))
      have HB6 := Lib.hid (balloc (bstep HB.out hb) (.cells #[.int .i64 (0), .int .i64 (0)] 34))
      clear hb A HB
      obtain ⟨a1, a2, a3, a4, a5⟩ := A6.out
      go_wp2_with fail
      clear a1 a2 a3 a4 a5
      refine (Age_shape _ _ _ _ _ S.out).mono ?_
      rintro e w7 ⟨rfl, hb⟩
      have O7 := Lib.hid ((O6.out.below hb).alloc (.cells #[.int .i64 (0), .int .i64 (0)] 34))
      have H7 := Lib.hid (Sq.new w7 (0) (0))
      have HB7 := Lib.hid (balloc (bstep HB6.out hb) (.cells #[.int .i64 (0), .int .i64 (0)] 34))
      clear hb A6 O6 HB6
      obtain ⟨a1, a2, a3, a4, a5⟩ := H7.out
      go_wp2_with fail
      clear a1 a2 a3 a4 a5
      refine (Age_ok 0 0 _ _ _ (by unfold okS; omega) v1 p1 p2).mono ?_
      rintro e w8 ⟨rfl, hb⟩
      have O8 := Lib.hid (O7.out.below hb)
      have HB8 := Lib.hid (bstep HB7.out hb)
      clear hb O7 H7 HB7
      obtain ⟨a1, a2, a3, a4, a5⟩ := O8.out
      go_wp2_with fail
      go_ret
      exact ⟨rfl, balloc HB8.out _⟩
    · have R : Hid (¬ (0 ≤ rho ∧ rho ≤ 1000)) := cr
      clear cr
      obtain ⟨a1, a2, a3, a4, a5⟩ := A.out
      go_wp2_with fail
      clear a1 a2 a3 a4 a5
      refine (Age_shape _ _ _ _ _ S.out).mono ?_
      rintro e w6 ⟨rfl, hb⟩
      have A6 := Lib.hid ((A.out.below hb).alloc (.cells #[.int .i64 (0), .int .i64 (0)] 34))
      have O6 := Lib.hid (Sq.new w6 (0) (0))
      have HB6 := Lib.hid (balloc (bstep HB.out hb) (.cells #[.int .i64 (0), .int .i64 (0)] 34))
      clear hb A HB
      obtain ⟨a1, a2, a3, a4, a5⟩ := A6.out
      go_wp2_with fail
      clear a1 a2 a3 a4 a5
      refine (Age_shape _ _ _ _ _ S.out).mono ?_
      rintro e w7 ⟨rfl, hb⟩
      have O7 := Lib.hid ((O6.out.below hb).alloc (.cells #[.int .i64 (0), .int .i64 (0)] 34))
      have H7 := Lib.hid (Sq.new w7 (0) (0))
      have HB7 := Lib.hid (balloc (bstep HB6.out hb) (.cells #[.int .i64 (0), .int .i64 (0)] 34))
      clear hb A6 O6 HB6
      obtain ⟨a1, a2, a3, a4, a5⟩ := H7.out
      go_wp2_with fail
      clear a1 a2 a3 a4 a5
      refine (Age_range _ _ _ _ _ (by unfold okS; omega) (fun g => R.out g.2)).mono ?_
      rintro e w8 ⟨rfl, hb⟩
      have O8 := Lib.hid (O7.out.below hb)
      have HB8 := Lib.hid (bstep HB7.out hb)
      clear hb O7 H7 HB7
      obtain ⟨a1, a2, a3, a4, a5⟩ := O8.out
      go_wp2_with fail
      go_ret
      exact ⟨rfl, balloc HB8.out _⟩

set_option maxRecDepth 100000 in
set_option maxHeartbeats 4000000 in
theorem walk_bad (b off n cap : Nat) (X Y : Nat → Int) (at' lo hi d more rho : Int) (w : World) (hn : n ≤ 9223372036854775807) (h : Legs w b off n X Y ∧ ¬ okW n X Y) :
    Calls Try.prog 6 #[.slice (some ⟨b, off, none⟩) n cap, .int .i64 at', .agg #[.int .i64 lo, .int .i64 hi], .int .i64 d, .int .i64 more, .int .i64 rho] w fun e w' => e = .returned (.bool true) ∧ Below w.heap.size w w' := by
  have L := Lib.hid h
  clear h
  go_enter Try.func6, Try.ntmps6
  go_wp2_with fail
  refine (awake2_c _).mono ?_
  rintro e w1 ⟨rfl, hb⟩
  have A1 := Lib.hid ((Sq.new w lo hi).below hb)
  have HB1 := Lib.hid (bstep (balloc (brefl w) _) hb)
  clear hb
  go_wp2_with fail
  refine (Check2_c b off n cap X Y _ hn (L.out.1.below HB1.out)).mono ?_
  rintro e w2 ⟨ho, hb⟩
  obtain ⟨_, rfl⟩ := ho.resolve_left (fun g => L.out.2 g.1)
  clear ho
  have A := Lib.hid (A1.out.below hb)
  have HB := Lib.hid (bstep HB1.out hb)
  clear hb A1 HB1
  go_wp2_with fail
  refine (into_c _ _ _ (by omega) (by omega)).mono ?_
  rintro e w5 ⟨⟨u, u1, u2, rfl⟩, rfl⟩
  go_wp2_with fail
  refine (into_c _ _ _ (by omega) (by omega)).mono ?_
  rintro e w5 ⟨⟨v, v1, v2, rfl⟩, rfl⟩
  by_cases cs : okS lo hi
  · have S := Lib.hid cs
    clear cs
    by_cases cr : 0 ≤ rho ∧ rho ≤ 1000
    · obtain ⟨p1, p2⟩ := cr
      have HF := Lib.hid (age_half S.out u1 p1 p2)
      have M := age_twice S.out u1 u2 v1 v2 p1 p2
      obtain ⟨L3, E1⟩ : ∃ x, shl lo (elLo (u + v) rho) = x := ⟨_, rfl⟩
      obtain ⟨U3, E2⟩ : ∃ x, shh hi (elHi (u + v) rho) = x := ⟨_, rfl⟩
      obtain ⟨L1, E3⟩ : ∃ x, shl lo (elLo u rho) = x := ⟨_, rfl⟩
      obtain ⟨U1, E4⟩ : ∃ x, shh hi (elHi u rho) = x := ⟨_, rfl⟩
      rw [E3, E4] at HF
      rw [E1, E2, E3, E4] at M
      obtain ⟨L2, E5⟩ : ∃ x, shl L1 (elLo v rho) = x := ⟨_, rfl⟩
      obtain ⟨U2, E6⟩ : ∃ x, shh U1 (elHi v rho) = x := ⟨_, rfl⟩
      rw [E5, E6] at M
      obtain ⟨M1, M2⟩ := M
      have m1 : decide (L2 ≤ L3) = true := decide_eq_true M1
      have m2 : decide (U3 ≤ U2) = true := decide_eq_true M2
      obtain ⟨a1, a2, a3, a4, a5⟩ := A.out
      go_wp2_with fail
      clear a1 a2 a3 a4 a5
      refine (Age_ok _ _ _ _ _ S.out (by omega) p1 p2).mono ?_
      rintro e w6 ⟨rfl, hb⟩
      rw [E1, E2]
      have A6 := Lib.hid ((A.out.below hb).alloc (.cells #[.int .i64 (L3), .int .i64 (U3)] 34))
      have O6 := Lib.hid (Sq.new w6 (L3) (U3))
      have HB6 := Lib.hid (balloc (bstep HB.out hb) (.cells #[.int .i64 (L3), .int .i64 (U3)] 34))
      clear hb A HB
      obtain ⟨a1, a2, a3, a4, a5⟩ := A6.out
      go_wp2_with fail
      clear a1 a2 a3 a4 a5
      refine (Age_ok _ _ _ _ _ S.out u1 p1 p2).mono ?_
      rintro e w7 ⟨rfl, hb⟩
      rw [E3, E4]
      have O7 := Lib.hid ((O6.out.below hb).alloc (.cells #[.int .i64 (L1), .int .i64 (U1)] 34))
      have H7 := Lib.hid (Sq.new w7 (L1) (U1))
      have HB7 := Lib.hid (balloc (bstep HB6.out hb) (.cells #[.int .i64 (L1), .int .i64 (U1)] 34))
      clear hb A6 O6 HB6
      obtain ⟨a1, a2, a3, a4, a5⟩ := H7.out
      go_wp2_with fail
      clear a1 a2 a3 a4 a5
      refine (Age_ok _ _ _ _ _ HF.out v1 p1 p2).mono ?_
      rintro e w8 ⟨rfl, hb⟩
      rw [E5, E6]
      have O8 := Lib.hid (O7.out.below hb)
      have HB8 := Lib.hid (bstep HB7.out hb)
      clear hb O7 H7 HB7
      obtain ⟨a1, a2, a3, a4, a5⟩ := O8.out
      go_wp2_with fail
      go_ret
      exact ⟨rfl, balloc HB8.out _⟩
    · have R : Hid (¬ (0 ≤ rho ∧ rho ≤ 1000)) := cr
      clear cr
      obtain ⟨a1, a2, a3, a4, a5⟩ := A.out
      go_wp2_with fail
      clear a1 a2 a3 a4 a5
      refine (Age_range _ _ _ _ _ S.out (fun g => R.out g.2)).mono ?_
      rintro e w6 ⟨rfl, hb⟩
      have A6 := Lib.hid ((A.out.below hb).alloc (.cells #[.int .i64 (0), .int .i64 (0)] 34))
      have O6 := Lib.hid (Sq.new w6 (0) (0))
      have HB6 := Lib.hid (balloc (bstep HB.out hb) (.cells #[.int .i64 (0), .int .i64 (0)] 34))
      clear hb A HB
      obtain ⟨a1, a2, a3, a4, a5⟩ := A6.out
      go_wp2_with fail
      clear a1 a2 a3 a4 a5
      refine (Age_range _ _ _ _ _ S.out (fun g => R.out g.2)).mono ?_
      rintro e w7 ⟨rfl, hb⟩
      have O7 := Lib.hid ((O6.out.below hb).alloc (.cells #[.int .i64 (0), .int .i64 (0)] 34))
      have H7 := Lib.hid (Sq.new w7 (0) (0))
      have HB7 := Lib.hid (balloc (bstep HB6.out hb) (.cells #[.int .i64 (0), .int .i64 (0)] 34))
      clear hb A6 O6 HB6
      obtain ⟨a1, a2, a3, a4, a5⟩ := H7.out
      go_wp2_with fail
      clear a1 a2 a3 a4 a5
      refine (Age_range _ _ _ _ _ (by unfold okS; omega) (fun g => R.out g.2)).mono ?_
      rintro e w8 ⟨rfl, hb⟩
      have O8 := Lib.hid (O7.out.below hb)
      have HB8 := Lib.hid (bstep HB7.out hb)
      clear hb O7 H7 HB7
      obtain ⟨a1, a2, a3, a4, a5⟩ := O8.out
      go_wp2_with fail
      go_ret
      exact ⟨rfl, balloc HB8.out _⟩
  · have S := Lib.hid cs
    clear cs
    by_cases cr : 0 ≤ rho ∧ rho ≤ 1000
    · obtain ⟨p1, p2⟩ := cr
      obtain ⟨a1, a2, a3, a4, a5⟩ := A.out
      go_wp2_with fail
      clear a1 a2 a3 a4 a5
      refine (Age_shape _ _ _ _ _ S.out).mono ?_
      rintro e w6 ⟨rfl, hb⟩
      have A6 := Lib.hid ((A.out.below hb).alloc (.cells #[.int .i64 (0), .int .i64 (0)] 34))
      have O6 := Lib.hid (Sq.new w6 (0) (0))
      have HB6 := Lib.hid (balloc (bstep HB.out hb) (.cells #[.int .i64 (0), .int .i64 (0)] 34))
      clear hb A HB
      obtain ⟨a1, a2, a3, a4, a5⟩ := A6.out
      go_wp2_with fail
      clear a1 a2 a3 a4 a5
      refine (Age_shape _ _ _ _ _ S.out).mono ?_
      rintro e w7 ⟨rfl, hb⟩
      have O7 := Lib.hid ((O6.out.below hb).alloc (.cells #[.int .i64 (0), .int .i64 (0)] 34))
      have H7 := Lib.hid (Sq.new w7 (0) (0))
      have HB7 := Lib.hid (balloc (bstep HB6.out hb) (.cells #[.int .i64 (0), .int .i64 (0)] 34))
      clear hb A6 O6 HB6
      obtain ⟨a1, a2, a3, a4, a5⟩ := H7.out
      go_wp2_with fail
      clear a1 a2 a3 a4 a5
      refine (Age_ok 0 0 _ _ _ (by unfold okS; omega) v1 p1 p2).mono ?_
      rintro e w8 ⟨rfl, hb⟩
      have O8 := Lib.hid (O7.out.below hb)
      have HB8 := Lib.hid (bstep HB7.out hb)
      clear hb O7 H7 HB7
      obtain ⟨a1, a2, a3, a4, a5⟩ := O8.out
      go_wp2_with fail
      go_ret
      exact ⟨rfl, balloc HB8.out _⟩
    · have R : Hid (¬ (0 ≤ rho ∧ rho ≤ 1000)) := cr
      clear cr
      obtain ⟨a1, a2, a3, a4, a5⟩ := A.out
      go_wp2_with fail
      clear a1 a2 a3 a4 a5
      refine (Age_shape _ _ _ _ _ S.out).mono ?_
      rintro e w6 ⟨rfl, hb⟩
      have A6 := Lib.hid ((A.out.below hb).alloc (.cells #[.int .i64 (0), .int .i64 (0)] 34))
      have O6 := Lib.hid (Sq.new w6 (0) (0))
      have HB6 := Lib.hid (balloc (bstep HB.out hb) (.cells #[.int .i64 (0), .int .i64 (0)] 34))
      clear hb A HB
      obtain ⟨a1, a2, a3, a4, a5⟩ := A6.out
      go_wp2_with fail
      clear a1 a2 a3 a4 a5
      refine (Age_shape _ _ _ _ _ S.out).mono ?_
      rintro e w7 ⟨rfl, hb⟩
      have O7 := Lib.hid ((O6.out.below hb).alloc (.cells #[.int .i64 (0), .int .i64 (0)] 34))
      have H7 := Lib.hid (Sq.new w7 (0) (0))
      have HB7 := Lib.hid (balloc (bstep HB6.out hb) (.cells #[.int .i64 (0), .int .i64 (0)] 34))
      clear hb A6 O6 HB6
      obtain ⟨a1, a2, a3, a4, a5⟩ := H7.out
      go_wp2_with fail
      clear a1 a2 a3 a4 a5
      refine (Age_range _ _ _ _ _ (by unfold okS; omega) (fun g => R.out g.2)).mono ?_
      rintro e w8 ⟨rfl, hb⟩
      have O8 := Lib.hid (O7.out.below hb)
      have HB8 := Lib.hid (bstep HB7.out hb)
      clear hb O7 H7 HB7
      obtain ⟨a1, a2, a3, a4, a5⟩ := O8.out
      go_wp2_with fail
      go_ret
      exact ⟨rfl, balloc HB8.out _⟩

theorem walk (v0 : Value) (n0 : Nat) (X0 Y0 : Nat → Int) (a1 a2l a2h a3 a4 a5 : Int) (w1 : (Lit.int .i64 a1).wf = true) (w2l : (Lit.int .i64 a2l).wf = true) (w2h : (Lit.int .i64 a2h).wf = true) (w3 : (Lit.int .i64 a3).wf = true) (w4 : (Lit.int .i64 a4).wf = true) (w5 : (Lit.int .i64 a5).wf = true) (w : World) (g0 : WayBig w v0 n0 X0 Y0) :
    Calls Try.prog 6 #[v0, .int .i64 a1, .agg #[.int .i64 a2l, .int .i64 a2h], .int .i64 a3, .int .i64 a4, .int .i64 a5] w fun e w' => e = .returned (.bool true) ∧ Below w.heap.size w w' := by
  rcases g0 with ⟨rfl, a, cap, rfl⟩ | ⟨h0, hs, b, off, cap, rfl, hc, hcap, h⟩
  · exact walk_none a cap a1 a2l a2h a3 a4 a5 w trivial
  · by_cases c : okW n0 X0 Y0
    · exact walk_b b off n0 cap X0 Y0 a1 a2l a2h a3 a4 a5 w h h0 hc hcap hs c
    · exact walk_bad b off n0 cap X0 Y0 a1 a2l a2h a3 a4 a5 w (by omega) ⟨h, c⟩

set_option maxRecDepth 100000 in
theorem lifted (os : Os) (started : os.Started) (H : Type) (enc : TypeId × Value → H) :
    ReturnsInHanded {} Try.checked os 6 .any (Rows.oscSplitsSpec.pre6 enc Try.prog Try.f6 Rows.oscSplitsRow.domain false) (Rows.oscSplitsSpec.post enc Try.prog Try.f6 false true false false) := by
  refine returnsInHanded_of_change_sized (C := Try.checked) own started (by kernel_rfl) Try.func6
    (ChangeSpec.witness6 (enc := enc) (C := Try.checked) false ⟨#[], #[.slice none 0 0, .int .i64 0, .agg #[.int .i64 0, .int .i64 0], .int .i64 0, .int .i64 0, .int .i64 0], []⟩ 8 (by kernel_rfl) (by kernel_rfl) (by kernel_rfl) (by kernel_rfl)) ?_
  intro W base args ds gs before hval0 hW hcnd hsz0 _
  have hsz : (DataW.weightsEach Try.prog (Try.f6.params.toList ++ Rows.oscSplitsSpec.plain.varTypes Try.prog) (ds ++ gs)).all (· ≤ reachBytes) = true := hsz0
  have hval : ∀ (j : Nat) t v, Try.f6.params[j]? = some t → args[j]? = some v → Value.okWide Try.prog W .any base t v := hval0
  have hW' := hW
  obtain ⟨p, q, hA0, hV, rfl, hfz, hnd⟩ := hW
  have hA : DataW.TrodAll enc Try.prog W 0 (fun _ => true) true Try.f6.params.toList args.toList ds p := hA0
  rw [Try.params6] at hA hval hsz
  obtain ⟨v0, vs0, d0, ds0, p0, q0, hargs, rfl, rfl, h0, r0⟩ := trodAll_cons hA
  obtain ⟨v1, vs1, d1, ds1, p1, q1, rfl, rfl, rfl, h1, r1⟩ := trodAll_cons r0
  obtain ⟨v2, vs2, d2, ds2, p2, q2, rfl, rfl, rfl, h2, r2⟩ := trodAll_cons r1
  obtain ⟨v3, vs3, d3, ds3, p3, q3, rfl, rfl, rfl, h3, r3⟩ := trodAll_cons r2
  obtain ⟨v4, vs4, d4, ds4, p4, q4, rfl, rfl, rfl, h4, r4⟩ := trodAll_cons r3
  obtain ⟨v5, vs5, d5, ds5, p5, q5, rfl, rfl, rfl, h5, r5⟩ := trodAll_cons r4
  obtain ⟨rfl, rfl, rfl⟩ := trodAll_nil r5
  obtain rfl : args = #[v0, v1, v2, v3, v4, v5] := by cases args; simp_all
  obtain ⟨rfl, rfl⟩ := trodVars_none hV
  have h0k := h0
  have hlt0 : ∀ x ∈ p0, x.block < W.heap.size := fun x hx => by have := hW'.lt x (by simp [hx]); simpa using this
  have hb16 : ∀ elems spare, d0 = .slice elems spare → elems.length * 16 ≤ 140737488351232 := by
    intro es sp he
    have k := sized_slice hsz (j := 0) (t := 22) (e := 45) rfl (by rw [he]; rfl) Try.underlying22
    rw [bytes_leg] at k
    unfold reachBytes at k
    omega
  obtain ⟨n0, X0, Y0, g0⟩ := open_way2 (hval 0 22 v0 rfl rfl) h0 hb16
  obtain ⟨a1, rfl, rfl, rfl, w1⟩ := open_int Try.underlying3 (hval 1 3 v1 rfl rfl) h1
  obtain ⟨c2l, c2h, y2l, y2h, m2, rfl, rfl, rfl, hy2l, hy2h⟩ := open_agg2 Try.underlying34 (by kernel_rfl) (by kernel_rfl) (hval 2 34 v2 rfl rfl) h2
  obtain ⟨a2l, e2l, z2l, w2l⟩ := DataW.trod_int Try.underlying23 hy2l
  simp at e2l
  subst e2l z2l
  obtain ⟨a2h, e2h, z2h, w2h⟩ := DataW.trod_int Try.underlying23 hy2h
  simp at e2h
  subst e2h z2h
  obtain ⟨a3, rfl, rfl, rfl, w3⟩ := open_int Try.underlying23 (hval 3 23 v3 rfl rfl) h3
  obtain ⟨a4, rfl, rfl, rfl, w4⟩ := open_int Try.underlying23 (hval 4 23 v4 rfl rfl) h4
  obtain ⟨a5, rfl, rfl, rfl, w5⟩ := open_int Try.underlying3 (hval 5 3 v5 rfl rfl) h5
  clear hA0 hval0
  simp only [List.append_nil] at hW'
  refine (walk v0 n0 X0 Y0 a1 a2l a2h a3 a4 a5 w1 w2l w2h w3 w4 w5 W g0).mono fun e W' ⟨he, hg⟩ => ?_
  subst he
  exact ⟨_, rfl, _, _, _, [], _, [], hW', trodAll_cons_mk (shut_bool Try.underlying4 _) trodAll_mk0,
    (trodAll_cons_mk (Below.trod laidOut (by kernel_rfl) (of_decide_eq_true (by kernel_rfl)) h0k hg hlt0) (trodAll_cons_mk (shut_int Try.underlying3 w1) (trodAll_cons_mk (shut_agg2 (y0 := (.lit (.int .i64 a2l), [])) (y1 := (.lit (.int .i64 a2h), [])) Try.underlying34 (by kernel_rfl) (by kernel_rfl) ⟨1, by show DataW.trod enc Try.prog _ _ _ _ _ _ _ = _; simp [DataW.trod, Try.underlying23, w2l]⟩ ⟨1, by show DataW.trod enc Try.prog _ _ _ _ _ _ _ = _; simp [DataW.trod, Try.underlying23, w2h]⟩) (trodAll_cons_mk (shut_int Try.underlying23 w3) (trodAll_cons_mk (shut_int Try.underlying23 w4) (trodAll_cons_mk (shut_int Try.underlying3 w5) trodAll_mk0)))))), rfl, hg.frame _, fun h => nomatch h⟩

theorem over : Rows.oscSplitsRow.holds Try.pinned (OpenSpec.ofChange Rows.oscSplitsSpec) :=
  OpenClaim.holds_of_wide 6 Try.f6 rfl rfl rfl rfl rfl rfl rfl ⟨rfl, rfl, rfl, rfl, rfl⟩ rfl rfl rfl rfl rfl (by kernel_rfl) Try.func6 (by kernel_rfl)
    (of_decide_eq_true (by kernel_rfl)) (by unfold Func.isWrapper; first | (rw [if_pos (by decide +kernel)]; kernel_rfl) | (rw [if_neg (by decide +kernel)]; exact ⟨rfl, rfl⟩))
    (fun os started H enc _ => lifted os started H enc)

theorem proved : Rows.OscSplitsSaid :=
  over
end Go.Proofs.Ythdkkcibomigcaa.oscSplits
