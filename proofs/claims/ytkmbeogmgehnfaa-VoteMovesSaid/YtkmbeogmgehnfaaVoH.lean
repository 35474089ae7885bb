/-
  What the program's three functions of votes are to answer (a premise of the texts that follow, paid by the program's own text); sundiallaw16.same and awake; numbers that come in.
  Conditions: that premise.
-/
import Derived.Test.YtkmbeogmgehnfaaVoG
import Derived.Test.YtkmbeogmgehnfaaVoF
namespace Go.Proofs.Ytkmbeogmgehnfaa.Vo
open Go.RowKit Go.ChangeShapes Go.WideShapes Go.ChangeAt Go.Joins Fl Hu
set_option linter.unusedVariables false
set_option linter.unusedSimpArgs false

structure PC : Prop where
  inter : ∀ (w : World) (v : Value) (L : List Cd), Cs w v L → L.length ≤ 8796093022208 →
    Calls Try.prog 8 #[v] w fun e w' => IP w L e w' ∧ Below w.heap.size w w'
  clus : ∀ (w : World) (v sv : Value) (L : List Cd) (S : List Int), Cs w v L → Is w sv S → L.length ≤ 8796093022208 → S.length ≤ 35184372088832 →
    Calls Try.prog 10 #[v, sv] w fun e w' => KP w L S e w' ∧ Below w.heap.size w w'
  comb : ∀ (w : World) (v sv : Value) (L : List Cd) (S : List Int), Cs w v L → Is w sv S → L.length ≤ 8796093022208 → S.length ≤ 35184372088832 →
    Calls Try.prog 12 #[v, sv] w fun e w' => e = coE L S ∧ Below w.heap.size w w'
set_option maxRecDepth 100000 in
theorem open_is {H : Type} {enc : TypeId × Value → H} {W : World} {base : Nat} {v : Value} {d : DataW H} {pl : List MemPlace}
    (hv : Value.okWide Try.prog W .any base 23 v) (h : DataW.Trod enc Try.prog W 0 (fun _ => true) true 23 v d pl)
    (hs : ∀ es sp, d = .slice es sp → (es.length + sp.length) * Try.prog.bytesOf 3 ≤ reachBytes) : ∃ L, Is W v L ∧ (∀ x ∈ L, -9223372036854775808 ≤ x ∧ x ≤ 9223372036854775807) ∧ L.length * 8 ≤ 140737488351232 := by
  obtain ⟨a0, len0, cap0, rfl⟩ := okWide_slice Try.underlying23 hv
  obtain ⟨fuel, hf0⟩ := h
  have hf : DataW.trod enc Try.prog W 0 (fun _ => true) true fuel 23 [.slice a0 len0 cap0] = some (d, pl) := by simpa [Value.cells] using hf0
  rcases Go.Deep.open_slice Try.underlying23 hf with ⟨hcs, _⟩ | ⟨a, len, cap, m, n, D, Pl, hcs, _, hl, hm, hmm, hx, hall⟩
  · simp only [List.cons.injEq, and_true] at hcs
    rw [hcs]
    exact ⟨[], ⟨none, 0, rfl, by simp, by omega, fun hn => absurd hn (by simp)⟩, fun x hx => absurd hx (by simp), by simp⟩
  · simp only [List.cons.injEq, and_true] at hcs
    rw [hcs]
    simp only [if_true] at hmm
    subst hmm
    have hd := congrArg Prod.fst hx
    have sz := hs _ _ hd
    rw [show Try.prog.bytesOf 3 = 8 by kernel_rfl] at sz
    unfold reachBytes at sz
    have each : ∀ i, i < len → ∃ k : Int, W.cell? (a.add i) = some (.int .i64 k) ∧ -9223372036854775808 ≤ k ∧ k ≤ 9223372036854775807 := by
      intro i hi
      obtain ⟨cs', h1, h2⟩ := hall i (by omega)
      rw [cellsI, Nat.mul_one] at h1
      obtain ⟨_, hlen, hcell⟩ := World.cells?_some h1
      obtain ⟨k, e, _, wf⟩ := DataW.trod_int Try.underlying3 h2
      refine ⟨k, ?_, bounds_i64 wf⟩
      have q := hcell 0 (by omega)
      have z : (a.add i).add 0 = a.add i := by unfold Addr.add; split <;> simp_all
      rw [z] at q
      rw [q]
      simp [e]
    obtain ⟨K, hK⟩ := Go.Deep.choose_lt each
    have hlen : ((List.range len).map fun i => K i).length = len := by simp
    have hget : ∀ j s, ((List.range len).map fun i => K i)[j]? = some s → j < len ∧ s = K j := fun j s hj => by
      have l := (List.getElem?_eq_some_iff.1 hj).1
      rw [hlen] at l
      refine ⟨l, ?_⟩
      simpa [l] using hj.symm
    refine ⟨(List.range len).map fun i => K i, ⟨some a, m, by rw [hlen], by rw [hlen]; exact hl, by unfold maxLen at hm; omega, fun hn => ?_⟩, fun x hx => ?_, by rw [hlen]; simp at sz; omega⟩
    · rw [hlen] at hn
      have c0 := (hK 0 hn).1
      obtain ⟨b, off, s⟩ := a
      have sp : s = none := by simpa [Addr.add] using World.cell?_spot c0
      subst sp
      refine ⟨b, off, rfl, World.block_lt_of_cell? W _ c0, fun j s hj => ?_⟩
      obtain ⟨hj', rfl⟩ := hget j s hj
      have q := (hK j hj').1
      rwa [add_plain] at q
    · obtain ⟨i, hi, rfl⟩ := List.mem_map.1 hx
      exact (hK i (List.mem_range.1 hi)).2
set_option maxRecDepth 100000 in
theorem same_c {w : World} {va vb : Value} {A B : List Int} (ha : Is w va A) (hb : Is w vb B) (hn : A.length ≤ 35184372088832) (hn2 : B.length ≤ 35184372088832) :
    Calls Try.prog 14 #[va, vb] w fun e w' => e = .returned (.bool (decide (A = B))) ∧ Below w.heap.size w w' := by
  have HA := Lib.hid ha
  have HB := Lib.hid hb
  obtain ⟨sa, ca, rfl, p1, p2, _⟩ := ha
  obtain ⟨sb, cb, rfl, q1, q2, _⟩ := hb
  obtain ⟨m, hm⟩ : ∃ m, A.length = m := ⟨_, rfl⟩
  obtain ⟨n, hsn⟩ : ∃ n, B.length = n := ⟨_, rfl⟩
  have HM := Lib.hid hm
  have HN := Lib.hid hsn
  rw [hm] at HA p1 hn ⊢
  rw [hsn] at HB q1 hn2 ⊢
  have m0 : (0 : Int) ≤ (m : Int) := by omega
  have m1 : (m : Int) ≤ 35184372088832 := by omega
  have m2 : (m : Int) ≤ (ca : Int) := by omega
  have m3 : (ca : Int) ≤ 9223372036854775807 := by omega
  have n2 : (n : Int) ≤ (cb : Int) := by omega
  have n3 : (cb : Int) ≤ 9223372036854775807 := by omega
  by_cases e : m = n
  · subst e
    have g1 : ((m : Int) != (m : Int)) = false := by simp
    have EQ : Hid (∀ (k : Nat), A.take k = B.take k → ∀ (x y : Int), A[k]? = some x → B[k]? = some y → x = y → A.take (k + 1) = B.take (k + 1)) := Lib.hid fun k h x y hx hy q => by rw [take_more hx, take_more hy, h, q]
    have NE : Hid (∀ (k : Nat) (x y : Int), A[k]? = some x → B[k]? = some y → x ≠ y → decide (A = B) = false) := Lib.hid fun k x y hx hy q => decide_eq_false fun z => q (by rw [z, hy] at hx; cases hx; rfl)
    have FI : Hid (A.take m = B.take m → decide (A = B) = true) := Lib.hid fun h => decide_eq_true (by rwa [List.take_of_length_le (by omega), List.take_of_length_le (by omega)] at h)
    clear hm hsn
    go_enter Try.func14, Try.ntmps14
    go_wp2_with fail
    go_loopw [5] (fun iv wr => ∃ k : Nat, k ≤ m ∧ iv = .int .i64 (k : Nat) ∧ A.take k = B.take k ∧ Below w.heap.size w wr) (fun iv _ => m - (intOf iv).toNat)
    case atStart => exact ⟨0, by omega, rfl, rfl, brefl w⟩
    case round =>
      obtain ⟨k, hk, rfl, htk, hb⟩ := hrel
      rename World => wr
      have BR := Lib.hid hb
      have TK := Lib.hid htk
      clear hb htk
      by_cases c : k < m
      · have e1 : decide ((k : Int) < (m : Int)) = true := decide_eq_true (by omega)
        have e2 : decide (k < m) = true := decide_eq_true c
        have k1 : (k : Int) < (m : Int) := by omega
        have k0 : (0 : Int) ≤ (k : Int) := by omega
        have wk : IntKind.i64.wrap ((k : Int) + 1) = (k : Int) + 1 := wrap_in (by omega) (by omega)
        obtain ⟨x, hx⟩ : ∃ x, A[k]? = some x := ⟨_, List.getElem?_eq_getElem (by rw [HM.out]; exact c)⟩
        obtain ⟨y, hy⟩ : ∃ y, B[k]? = some y := ⟨_, List.getElem?_eq_getElem (by rw [HN.out]; exact c)⟩
        obtain ⟨b1, o1, ea, z1⟩ := (HA.out.below BR.out).at hx
        subst ea
        obtain ⟨b2, o2, ea, z2⟩ := (HB.out.below BR.out).at hy
        subst ea
        by_cases q : x = y
        · have d1 : (x != y) = false := by simp [q]
          have NT := Lib.hid (EQ.out k TK.out x y hx hy q)
          clear hx hy
          go_upto_region 6 with fail
          go_quiet (fail)
          go_wp2_with fail
          exact ⟨⟨k + 1, by omega, by go_num, NT.out, bdrew BR.out _⟩, by simp [intOf]; omega⟩
        · have d1 : (x != y) = true := by simpa using q
          have NT := Lib.hid (NE.out k x y hx hy q)
          clear hx hy
          go_upto_region 6 with fail
          go_quiet (fail)
          go_wp2_with fail
          go_ret
          exact ⟨by rw [NT.out]; rfl, bdrew BR.out _⟩
      · have e1 : decide ((k : Int) < (m : Int)) = false := decide_eq_false (by omega)
        have e2 : decide (k < m) = false := decide_eq_false c
        obtain rfl : k = m := by omega
        have NT := Lib.hid (FI.out TK.out)
        go_wp2_with fail
        go_ret
        exact ⟨by rw [NT.out]; rfl, BR.out⟩
  · have g1 : ((m : Int) != (n : Int)) = true := by simp; omega
    have g2 : ¬ (m : Int) = (n : Int) := by omega
    rw [show decide (A = B) = false from decide_eq_false fun z => e (by rw [← hm, ← hsn, z])]
    clear hm hsn
    go_enter Try.func14, Try.ntmps14
    go_wp2_with fail
    go_ret
    exact ⟨rfl, brefl w⟩
def l4 : List Cd := [⟨2, 10, 0, 0⟩, ⟨5, 10, 0, 0⟩, ⟨3, 2, 0, 0⟩, ⟨100, 1, 0, 0⟩]
theorem l4_in : inA l4 = (((1, 5), [0, 1, 2]), 0) := by
  have g : IsI l4 1 5 := ⟨1, by decide, ⟨hull_ends (by decide) (by decide) (by decide) (by decide) (by decide), by decide⟩, fun b hb m' M' q => by
    obtain rfl : b = 0 := by omega
    exact none_of_lows (f := 0) (L := sps l4) (by decide) (by decide) m' q.1.1⟩
  rw [inA_some (by decide) g, show tru l4 1 5 l4.length = [0, 1, 2] by decide]
def l2 : List Cd := [⟨0, 0, 0, 0⟩, ⟨10, 0, 0, 0⟩]
theorem l2_co : coE l2 [0, 1] = .returned (.tuple #[.int .i64 5, .int .i64 5, .int .i64 0]) := by
  rw [show ([0, 1] : List Int) = ints [0, 1] from rfl, coE_ok (by decide) (by decide), show coT l2 [0, 1] = 5 by decide, show coJ l2 [0, 1] = 5 by decide]
theorem l4_lit (w : World) (t : TypeId) : Cs (w.alloc (.cells #[.int .i64 2, .int .i64 10, .int .i64 0, .int .i64 0, .int .i64 5, .int .i64 10, .int .i64 0, .int .i64 0, .int .i64 3, .int .i64 2, .int .i64 0, .int .i64 0, .int .i64 100, .int .i64 1, .int .i64 0, .int .i64 0] t)) (.slice (some ⟨w.heap.size, 0, none⟩) 4 4) l4 := by
  refine ⟨_, 4, rfl, by simp [l4], by omega, fun _ => ⟨w.heap.size, 0, rfl, by simp, fun j s hj i v hi => ?_⟩⟩
  match j, hj with
  | 0, hj => simp [l4] at hj; subst hj; match i, hi with
    | 0, hi => simp [cvs] at hi; subst hi; simp [go_sem]
    | 1, hi => simp [cvs] at hi; subst hi; simp [go_sem]
    | 2, hi => simp [cvs] at hi; subst hi; simp [go_sem]
    | 3, hi => simp [cvs] at hi; subst hi; simp [go_sem]
    | i + 4, hi => simp [cvs] at hi
  | 1, hj => simp [l4] at hj; subst hj; match i, hi with
    | 0, hi => simp [cvs] at hi; subst hi; simp [go_sem]
    | 1, hi => simp [cvs] at hi; subst hi; simp [go_sem]
    | 2, hi => simp [cvs] at hi; subst hi; simp [go_sem]
    | 3, hi => simp [cvs] at hi; subst hi; simp [go_sem]
    | i + 4, hi => simp [cvs] at hi
  | 2, hj => simp [l4] at hj; subst hj; match i, hi with
    | 0, hi => simp [cvs] at hi; subst hi; simp [go_sem]
    | 1, hi => simp [cvs] at hi; subst hi; simp [go_sem]
    | 2, hi => simp [cvs] at hi; subst hi; simp [go_sem]
    | 3, hi => simp [cvs] at hi; subst hi; simp [go_sem]
    | i + 4, hi => simp [cvs] at hi
  | 3, hj => simp [l4] at hj; subst hj; match i, hi with
    | 0, hi => simp [cvs] at hi; subst hi; simp [go_sem]
    | 1, hi => simp [cvs] at hi; subst hi; simp [go_sem]
    | 2, hi => simp [cvs] at hi; subst hi; simp [go_sem]
    | 3, hi => simp [cvs] at hi; subst hi; simp [go_sem]
    | i + 4, hi => simp [cvs] at hi
  | j + 4, hj => simp [l4] at hj
theorem l2_lit (w : World) (t : TypeId) : Cs (w.alloc (.cells #[.int .i64 0, .int .i64 0, .int .i64 0, .int .i64 0, .int .i64 10, .int .i64 0, .int .i64 0, .int .i64 0] t)) (.slice (some ⟨w.heap.size, 0, none⟩) 2 2) l2 := by
  refine ⟨_, 2, rfl, by simp [l2], by omega, fun _ => ⟨w.heap.size, 0, rfl, by simp, fun j s hj i v hi => ?_⟩⟩
  match j, hj with
  | 0, hj => simp [l2] at hj; subst hj; match i, hi with
    | 0, hi => simp [cvs] at hi; subst hi; simp [go_sem]
    | 1, hi => simp [cvs] at hi; subst hi; simp [go_sem]
    | 2, hi => simp [cvs] at hi; subst hi; simp [go_sem]
    | 3, hi => simp [cvs] at hi; subst hi; simp [go_sem]
    | i + 4, hi => simp [cvs] at hi
  | 1, hj => simp [l2] at hj; subst hj; match i, hi with
    | 0, hi => simp [cvs] at hi; subst hi; simp [go_sem]
    | 1, hi => simp [cvs] at hi; subst hi; simp [go_sem]
    | 2, hi => simp [cvs] at hi; subst hi; simp [go_sem]
    | 3, hi => simp [cvs] at hi; subst hi; simp [go_sem]
    | i + 4, hi => simp [cvs] at hi
  | j + 2, hj => simp [l2] at hj
theorem is_lit (w : World) (t : TypeId) : Is (w.alloc (.cells #[.int .i64 0, .int .i64 1] t)) (.slice (some ⟨w.heap.size, 0, none⟩) 2 2) [0, 1] := by
  refine ⟨_, 2, rfl, by simp, by omega, fun _ => ⟨w.heap.size, 0, rfl, by simp, fun j x hj => ?_⟩⟩
  match j, hj with
  | 0, hj => simp at hj; subst hj; simp [go_sem]
  | 1, hj => simp at hj; subst hj; simp [go_sem]
  | j + 2, hj => simp at hj
set_option maxRecDepth 100000 in
set_option maxHeartbeats 2000000 in
theorem awake16_c (pc : PC) (w : World) : Calls Try.prog 7 #[] w fun e w' => e = .returned (.bool true) ∧ Below w.heap.size w w' := by
  have L4 := Lib.hid (l4_lit w 44)
  have B0 := Lib.hid (balloc (brefl w) (.cells #[.int .i64 2, .int .i64 10, .int .i64 0, .int .i64 0, .int .i64 5, .int .i64 10, .int .i64 0, .int .i64 0, .int .i64 3, .int .i64 2, .int .i64 0, .int .i64 0, .int .i64 100, .int .i64 1, .int .i64 0, .int .i64 0] 44))
  have PI : Hid (∀ w v, Cs w v l4 → Calls Try.prog 8 #[v] w fun e w' => (∃ a cap, e = .returned (.tuple #[.agg #[.int .i64 1, .int .i64 5], .slice a 3 cap, .int .i64 0])) ∧ Below w.heap.size w w') := Lib.hid fun w v h => by
    refine (pc.inter w v l4 h (by decide)).mono ?_
    rintro e w' ⟨⟨v', he, ho⟩, hb⟩
    rw [l4_in] at he ho
    obtain ⟨a, cap, ev, _⟩ := ho.is
    exact ⟨⟨a, cap, by rw [he, ev]; rfl⟩, hb⟩
  have PB : Hid (∀ w v sv, Cs w v l2 → Is w sv [0, 1] → Calls Try.prog 12 #[v, sv] w fun e w' => e = .returned (.tuple #[.int .i64 5, .int .i64 5, .int .i64 0]) ∧ Below w.heap.size w w') := Lib.hid fun w v sv h hs => by
    refine (pc.comb w v sv l2 [0, 1] h hs (by decide) (by decide)).mono ?_
    rintro e w' ⟨he, hb⟩
    exact ⟨he.trans l2_co, hb⟩
  clear pc
  go_enter Try.func7, Try.ntmps7
  go_wp2_with fail
  refine (PI.out _ _ L4.out).mono ?_
  rintro e w1 ⟨⟨a, cap, rfl⟩, hb⟩
  have hb2 := balloc hb (.cells #[.int .i64 1, .int .i64 5] 27)
  have B1 := Lib.hid (bstep B0.out hb2)
  have N1 := Lib.hid (new2 w1 1 5 27)
  clear hb hb2 B0 L4 PI
  go_upto_region 2 with fail
  generalize w1.alloc (.cells #[.int .i64 1, .int .i64 5] 27) = w2 at *
  have X1 := Lib.hid (l2_lit w2 44)
  have C1 := balloc (brefl w2) (.cells #[.int .i64 0, .int .i64 0, .int .i64 0, .int .i64 0, .int .i64 10, .int .i64 0, .int .i64 0, .int .i64 0] 44)
  have X2 := Lib.hid (fun w' (q : Below (w2.alloc (.cells #[.int .i64 0, .int .i64 0, .int .i64 0, .int .i64 0, .int .i64 10, .int .i64 0, .int .i64 0, .int .i64 0] 44)).heap.size (w2.alloc (.cells #[.int .i64 0, .int .i64 0, .int .i64 0, .int .i64 0, .int .i64 10, .int .i64 0, .int .i64 0, .int .i64 0] 44)) w') => X1.out.below q)
  have C2 := balloc (brefl (w2.alloc (.cells #[.int .i64 0, .int .i64 0, .int .i64 0, .int .i64 0, .int .i64 10, .int .i64 0, .int .i64 0, .int .i64 0] 44))) (.cells #[.int .i64 0, .int .i64 1] 3)
  have X3 := Lib.hid (X2.out _ C2)
  have Y3 := Lib.hid (is_lit (w2.alloc (.cells #[.int .i64 0, .int .i64 0, .int .i64 0, .int .i64 0, .int .i64 10, .int .i64 0, .int .i64 0, .int .i64 0] 44)) 3)
  have C3 := Lib.hid (bstep C1 C2)
  rw [show (w2.alloc (.cells #[.int .i64 0, .int .i64 0, .int .i64 0, .int .i64 0, .int .i64 10, .int .i64 0, .int .i64 0, .int .i64 0] 44)).heap.size = w2.heap.size + 1 by simp] at Y3
  clear C1 C2 X1 X2
  go_wp2_with fail
  with_reducible refine (PB.out _ _ _ X3.out Y3.out).mono ?_
  rintro e w3 ⟨rfl, hb⟩
  have hb3 := bstep C3.out hb
  have B3 := Lib.hid (bstep B1.out hb3)
  obtain ⟨z0, z1⟩ := blk2 N1.out hb3
  clear hb hb3 X3 Y3 C3 PB
  go_wp2_with fail
  go_ret
  exact ⟨rfl, B3.out⟩
end Go.Proofs.Ytkmbeogmgehnfaa.Vo
