/-
  A list of leap seconds, line by line: what the lines have said, in memory; the contracts of the list's takeExpires, takeHash, takeChange, take.
  Conditions: none.
-/
import Derived.Test.YtmehknhajoemgaaDoorLpS
import Derived.Test.YtmehknhajoemgaaDoorWc
namespace Go.Proofs.YtmehknhajoemgaaDoor.Wd
open Go.ChangeShapes Go.WideShapes Go.ChangeAt Go.RowKit Go.Joins By
set_option linter.unusedVariables false
set_option linter.unusedSimpArgs false

theorem info_change : (Tryd.prog.info? 55).map (fun i => (i.zero, i.size, i.bytes)) = some (some (.agg #[.int .i64 0, .int .i64 0]), 2, 16) := by kernel_rfl
/-- changes as cells. -/
def c2 : List (Int × Int) → List Value
  | [] => []
  | x :: l => .int .i64 x.1 :: .int .i64 x.2 :: c2 l
theorem c2_len : ∀ l, (c2 l).length = l.length * 2
  | [] => rfl
  | x :: l => by simp [c2, c2_len l]; omega
theorem c2_app : ∀ l k, c2 (l ++ k) = c2 l ++ c2 k
  | [], k => rfl
  | x :: l, k => by simp [c2, c2_app l k]
theorem c2_one : ∀ l, ∀ u ∈ c2 l, u.oneCell' = true
  | [], u, h => by simp [c2] at h
  | x :: l, u, h => by
    simp only [c2, List.mem_cons] at h
    rcases h with rfl | rfl | h
    · rfl
    · rfl
    · exact c2_one l u h
theorem c2_at : ∀ (L : List (Int × Int)) (j : Nat) (x : Int × Int), L[j]? = some x → (c2 L)[j * 2]? = some (.int .i64 x.1) ∧ (c2 L)[j * 2 + 1]? = some (.int .i64 x.2)
  | [], j, x, h => by simp at h
  | y :: L, 0, x, h => by simp at h; subst h; simp [c2]
  | y :: L, j + 1, x, h => by
    have := c2_at L j x (by simpa using h)
    rw [show (j + 1) * 2 = j * 2 + 1 + 1 from by omega]
    simpa [c2] using this
/-- v is a slice of the call's own that holds just these changes. -/
def OwnG (w : World) (base : Nat) (v : Value) (l : List (Int × Int)) : Prop := w.ownsRow base 55 2 v l.length (c2 l)
theorem OwnG.nil (w : World) (base : Nat) : OwnG w base (.slice none 0 0) [] := World.ownsRow_nil w base _ 2
theorem OwnG.block {w : World} {base : Nat} {v : Value} {l : List (Int × Int)} (h : OwnG w base v l) : ∀ k, v.ownBlock = some k → base ≤ k := by
  intro k hk
  rcases h.2 with ⟨rfl, _⟩ | ⟨g, cap, cur, rfl, hb, _⟩
  · simp [Value.ownBlock] at hk
  · simp [Value.ownBlock] at hk
    omega
theorem ownG_kind {w : World} {base : Nat} {v : Value} {l : List (Int × Int)} (h : OwnG w base v l) : ∀ g, v.ownBlock = some g → ∃ c, w.heap[g]? = some (.cells c 55 (0, 0)) := by
  intro g hg
  rcases h.2 with ⟨rfl, _⟩ | ⟨g', cap, cur, rfl, _, hgg, _⟩
  · simp [Value.ownBlock] at hg
  · simp [Value.ownBlock] at hg
    subst hg
    exact ⟨cur, hgg⟩
theorem ownG_keep {w w' : World} {base : Nat} {v : Value} {l : List (Int × Int)} (h : OwnG w base v l) (hk : ∀ g, v.ownBlock = some g → w'.heap[g]? = w.heap[g]?) : OwnG w' base v l := by
  refine ⟨h.1, h.2.imp id ?_⟩
  rintro ⟨g, cap, cur, hv, hg, hh, r⟩
  exact ⟨g, cap, cur, hv, hg, (hk g (by rw [hv]; rfl)).trans hh, r⟩
theorem ownG_ne {w : World} {base : Nat} {v : Value} {l : List (Int × Int)} (h : OwnG w base v l) {b : Nat} {c : Array Value} {T : TypeId} {fz : Nat × Nat} (hb : w.heap[b]? = some (.cells c T fz)) (hT : T ≠ 55) : v.ownBlock ≠ some b := by
  intro e
  obtain ⟨c', h'⟩ := ownG_kind h b e
  rw [hb] at h'
  simp only [Option.some.injEq, Obj.cells.injEq] at h'
  exact hT h'.2.1
theorem ownG_sep {w : World} {base : Nat} {v : Value} {l : List (Int × Int)} (h : OwnG w base v l) {b : Nat} {c : Array Value} {T : TypeId} {fz : Nat × Nat} (hb : w.heap[b]? = some (.cells c T fz)) (hT : T ≠ 55) {g : Nat} (hg : v.ownBlock = some g) : g ≠ b := by
  rintro rfl
  exact ownG_ne h hb hT hg
theorem ownG_form {w : World} {base : Nat} {v : Value} {l : List (Int × Int)} (h : OwnG w base v l) : ∃ a cap, v = .slice a l.length cap := by
  rcases h.2 with ⟨hv, h0⟩ | ⟨g, cap, cur, hv, _⟩
  · exact ⟨none, 0, by rw [hv, h0]⟩
  · exact ⟨_, cap, hv⟩
theorem app2k {w : World} {base : Nat} {v : Value} {l : List (Int × Int)} (h : OwnG w base v l) (x : Int × Int) (hb : base ≤ w.heap.size) (hn : (l.length + 1) * 16 ≤ 140737488355328) (ty : TypeId) :
    ∃ v' w', (Builtin.append_ #[22, 22] ty #[v, .slice (some ⟨w.heap.size, 0, none⟩) 1 1]).run Tryd.prog (w.alloc (.cells #[.int .i64 x.1, .int .i64 x.2] 55)) = .ok v' w' ∧ OwnG w' base v' (l ++ [x]) ∧ (w.alloc (.cells #[.int .i64 x.1, .int .i64 x.2] 55)).grownBy w' v.ownBlock := by
  obtain ⟨i, hi, hz, hs, hby⟩ := info_parts3 info_change
  obtain ⟨v', w', hr, ho, hg, _, _⟩ := run_append_own_at (P := Tryd.prog) (w.alloc (.cells #[.int .i64 x.1, .int .i64 x.2] 55)) base 22 ty 55 i (.agg #[.int .i64 0, .int .i64 0]) 2 16 Tryd.underlying22 hi hz hs hby rfl (by decide) v l.length (c2 l) (World.ownsRow.alloc h _) ⟨w.heap.size, 0, none⟩ 1 1 (c2 [x]) rfl
    (by
      intro j u hj
      match j, hj with
      | 0, hj => simp [c2] at hj; subst hj; simp [Addr.add, go_sem]
      | 1, hj => simp [c2] at hj; subst hj; simp [Addr.add, go_sem]
      | j + 2, hj => simp [c2] at hj) (c2_one _) (by unfold maxLen; omega) (by omega) (by simp; omega)
  refine ⟨v', w', hr, ?_, hg⟩
  unfold OwnG
  rw [c2_app, List.length_append]
  exact ho

/-- what reading a line may change: block b, rows of changes, new blocks. -/
structure Wk (B b : Nat) (w w' : World) : Prop where
  below : Below B w w'
  others : Lib.OthersKept 55 (some b) w w'
theorem Wk.refl (B b : Nat) (w : World) : Wk B b w w := ⟨Below.refl _ _, Lib.OthersKept.refl _ _ _⟩
theorem Wk.trans {B b : Nat} {x y z : World} (h : Wk B b x y) (k : Wk B b y z) : Wk B b x z := ⟨h.below.trans k.below, h.others.trans k.others⟩
theorem Wk.set {B b : Nat} {x y : World} (h : Wk B b x y) (hB : B ≤ b) (i : Nat) (v : Value) : Wk B b x (y.setCell ⟨b, i, none⟩ v) := ⟨h.below.setCell hB v, h.others.setCell ⟨b, i, none⟩ rfl v⟩
theorem Wk.of {B b : Nat} {x y : World} (h : Below x.heap.size x y) (hB : B ≤ x.heap.size) : Wk B b x y :=
  ⟨h.mono hB, fun k o hk _ _ => (h.block k (Array.getElem?_eq_some_iff.1 hk).1).trans hk⟩

/-- what the lines have said: changes, the end, whether there was one, the hash. -/
structure St where
  L : List (Int × Int)
  e : Int
  he : Bool
  h : ByteArray
def stA (S : St) (v : Value) : Array Value := #[v, .int .i64 S.e, .bool S.he, .string S.h]
/-- .. in block b. -/
structure Ls (w : World) (B b : Nat) (S : St) : Prop where
  le : B ≤ b
  st : ∃ v, w.heap[b]? = some (.cells (stA S v) 62 (0, 0)) ∧ OwnG w B v S.L
theorem list_ne : (62 : TypeId) ≠ 55 := by decide
theorem Ls.below {w w' : World} {B b : Nat} {S : St} (h : Ls w B b S) (k : Below w.heap.size w w') : Ls w' B b S := by
  obtain ⟨le, v, hb, own⟩ := h
  refine ⟨le, v, (k.block b (Array.getElem?_eq_some_iff.1 hb).1).trans hb, ownG_keep own fun g hg => ?_⟩
  obtain ⟨c, hc⟩ := ownG_kind own g hg
  exact k.block g (Array.getElem?_eq_some_iff.1 hc).1
theorem Ls.lt {w : World} {B b : Nat} {S : St} (h : Ls w B b S) : b < w.heap.size := by
  obtain ⟨le, v, hb, own⟩ := h
  exact (Array.getElem?_eq_some_iff.1 hb).1
theorem cells_of {w : World} {b : Nat} {c : Array Value} {T : TypeId} (h : w.heap[b]? = some (.cells c T (0, 0))) (i : Nat) : w.cell? ⟨b, i, none⟩ = c[i]? ∧ w.frozen? ⟨b, i, none⟩ = false := by
  constructor <;> simp [World.cell?, World.frozen?, h]

set_option maxRecDepth 100000 in
set_option maxHeartbeats 4000000 in
theorem takeExpires_yes {w : World} {B b : Nat} {S : St} {v : Value} {t : ByteArray} {n : Nat} (A : Ls w B b S) (hz : t.size ≤ 9223372036854775807) (hB : B ≤ w.heap.size) (he : S.he = false) (V : Rw w v [⟨t, 1, false⟩]) (ht : wn t = true ∧ va t t.size = n) (hn : n < 10000000000) :
    Calls Tryd.prog 55 #[.pointer (some ⟨b, 0, none⟩), v] w fun e w' => e = .returned (.bool true) ∧ Ls w' B b ⟨S.L, (n : Int) * 1048576, true, S.h⟩ ∧ Wk B b w w' := by
  have BM := Lib.hid (behindMark_yes V rfl)
  have NC := Lib.hid (fun w => Number_c t w hz)
  rw [ht.1, ht.2] at NC
  simp only [if_true] at NC
  have A0 := Lib.hid A
  clear A V ht
  go_enter Tryd.func55, Tryd.ntmps55
  go_wp2_with fail
  refine BM.out.mono ?_
  rintro e w1 ⟨rfl, hb⟩
  have B1 := Lib.hid hb
  clear hb
  go_wp2_with fail
  refine (NC.out _).mono ?_
  rintro e w2 ⟨rfl, hb⟩
  have B2 := Lib.hid (bstep B1.out hb)
  obtain ⟨le, v0, hb2, own⟩ := A0.out.below B2.out
  obtain ⟨c1, z1⟩ := cells_of hb2 1
  obtain ⟨c2', z2⟩ := cells_of hb2 2
  rw [show (stA S v0)[1]? = some (.int .i64 S.e) from rfl] at c1
  rw [show (stA S v0)[2]? = some (.bool S.he) from rfl, he] at c2'
  have hb3 := heap_set hb2 2 (.bool true)
  have hb4 := heap_set hb3 1 (.int .i64 ((n : Int) * 1048576))
  have P := Lib.hid (And.intro hb4 (And.intro (ownG_keep own fun g hg => (heap_set_other (w := w2.setCell ⟨b, 2, none⟩ (.bool true)) 1 (.int .i64 ((n : Int) * 1048576)) (ownG_sep own hb2 list_ne hg)).trans (heap_set_other 2 (.bool true) (ownG_sep own hb2 list_ne hg))) (((Wk.of B2.out hB).set le 2 (.bool true)).set le 1 (.int .i64 ((n : Int) * 1048576)))))
  clear hb hb2 hb3 hb4 own B1 BM NC
  go_wp2_with fail
  go_ret
  exact ⟨rfl, ⟨le, v0, P.out.1, P.out.2.1⟩, P.out.2.2⟩
set_option maxRecDepth 100000 in
set_option maxHeartbeats 4000000 in
theorem takeExpires_no {w : World} {B b : Nat} {S : St} {v : Value} {t : ByteArray} {n : Nat} (A : Ls w B b S) (hz : t.size ≤ 9223372036854775807) (he : S.he = true) (V : Rw w v [⟨t, 1, false⟩]) (ht : wn t = true ∧ va t t.size = n) :
    Calls Tryd.prog 55 #[.pointer (some ⟨b, 0, none⟩), v] w fun e w' => e = .returned (.bool false) ∧ Below w.heap.size w w' := by
  have BM := Lib.hid (behindMark_yes V rfl)
  have NC := Lib.hid (fun w => Number_c t w hz)
  rw [ht.1, ht.2] at NC
  simp only [if_true] at NC
  have A0 := Lib.hid A
  clear A V ht
  go_enter Tryd.func55, Tryd.ntmps55
  go_wp2_with fail
  refine BM.out.mono ?_
  rintro e w1 ⟨rfl, hb⟩
  have B1 := Lib.hid hb
  clear hb
  go_wp2_with fail
  refine (NC.out _).mono ?_
  rintro e w2 ⟨rfl, hb⟩
  have B2 := Lib.hid (bstep B1.out hb)
  obtain ⟨le, v0, hb2, own⟩ := A0.out.below B2.out
  obtain ⟨c2', z2⟩ := cells_of hb2 2
  rw [show (stA S v0)[2]? = some (.bool S.he) from rfl, he] at c2'
  clear hb hb2 own B1 BM NC
  go_wp2_with fail
  go_ret
  exact ⟨rfl, B2.out⟩

set_option maxRecDepth 100000 in
set_option maxHeartbeats 4000000 in
theorem takeHash_yes {w : World} {B b : Nat} {S : St} {v : Value} {t : ByteArray} (A : Ls w B b S) (hB : B ≤ w.heap.size) (he : S.h = ⟨#[]⟩) (V : Rw w v [⟨t, 1, false⟩]) (ht : hx32 t) :
    Calls Tryd.prog 56 #[.pointer (some ⟨b, 0, none⟩), v] w fun e w' => e = .returned (.bool true) ∧ Ls w' B b ⟨S.L, S.e, S.he, t⟩ ∧ Wk B b w w' := by
  have BM := Lib.hid (behindMark_yes V rfl)
  have NC := Lib.hid (fun w => isHash_yes t w ht)
  have A0 := Lib.hid A
  clear A V ht
  go_enter Tryd.func56, Tryd.ntmps56
  go_wp2_with fail
  refine BM.out.mono ?_
  rintro e w1 ⟨rfl, hb⟩
  have B1 := Lib.hid hb
  clear hb
  go_wp2_with fail
  refine (NC.out _).mono ?_
  rintro e w2 ⟨rfl, hb⟩
  have B2 := Lib.hid (bstep B1.out hb)
  obtain ⟨le, v0, hb2, own⟩ := A0.out.below B2.out
  obtain ⟨c3', z3⟩ := cells_of hb2 3
  rw [show (stA S v0)[3]? = some (.string S.h) from rfl, he] at c3'
  have hb3 := heap_set hb2 3 (.string t)
  have P := Lib.hid (And.intro hb3 (And.intro (ownG_keep own fun g hg => heap_set_other 3 (.string t) (ownG_sep own hb2 list_ne hg)) ((Wk.of B2.out hB).set le 3 (.string t))))
  clear hb hb2 hb3 own B1 BM NC
  go_wp2_with fail
  go_ret
  exact ⟨rfl, ⟨le, v0, P.out.1, P.out.2.1⟩, P.out.2.2⟩

/-- two words, by their cells. -/
theorem own_two {w : World} {base : Nat} {v : Value} {x y : W3} (h : OwnR w base v [x, y]) : ∃ g cap, v = .slice (some ⟨g, 0, none⟩) 2 cap ∧ g < w.heap.size ∧ 2 ≤ cap ∧ cap ≤ 9223372036854775807 ∧
    (w.cell? ⟨g, 0, none⟩ = some (.string x.t) ∧ w.cell? ⟨g, 2, none⟩ = some (.bool x.q) ∧ w.cell? ⟨g, 3, none⟩ = some (.string y.t) ∧ w.cell? ⟨g, 5, none⟩ = some (.bool y.q)) := by
  rcases h.2 with ⟨_, h0⟩ | ⟨g, cap, cur, hv, hb, hh, hc, hm, hs, ht⟩
  · cases h0
  · have g0 := w3_at [x, y] 0 x rfl
    have g1 := w3_at [x, y] 1 y rfl
    have get : ∀ i u, i < 6 → (w3 [x, y])[i]? = some u → w.cell? ⟨g, i, none⟩ = some u := by
      intro i u hi hu
      rw [← (show cur.toList.take (2 * 3) = w3 [x, y] from ht), List.getElem?_take_of_lt (by omega)] at hu
      simp only [Array.getElem?_toList] at hu
      simp [World.cell?, hh, hu]
    exact ⟨g, cap, hv, (Array.getElem?_eq_some_iff.1 hh).1, hc, by unfold maxLen at hm; omega, get 0 _ (by omega) g0.1, get 2 _ (by omega) g0.2.2, get 3 _ (by omega) g1.1, get 5 _ (by omega) g1.2.2⟩

set_option maxRecDepth 100000 in
set_option maxHeartbeats 4000000 in
theorem takeChange_yes {w : World} {B b base : Nat} {S : St} {v : Value} {ta tb : ByteArray} {c : Int} {n m : Nat} (A : Ls w B b S) (hz : ta.size ≤ 9223372036854775807) (hz' : tb.size ≤ 9223372036854775807) (hB : B ≤ w.heap.size) (hl : S.L.length ≤ 1000000) (V : OwnR w base v [⟨ta, 0, false⟩, ⟨tb, c, false⟩]) (ht : wn ta = true ∧ va ta ta.size = n) (hn : n < 10000000000) (ht' : wn tb = true ∧ va tb tb.size = m) (hm : m < 10000000000) :
    Calls Tryd.prog 57 #[.pointer (some ⟨b, 0, none⟩), v] w fun e w' => e = .returned (.bool true) ∧ Ls w' B b ⟨S.L ++ [((n : Int) * 1048576, (m : Int))], S.e, S.he, S.h⟩ ∧ Wk B b w w' := by
  obtain ⟨g, cap, rfl, hg, k1, k2, g0, g2, g3, g5⟩ := own_two V
  have NC := Lib.hid (fun w => Number_c ta w hz)
  rw [ht.1, ht.2] at NC
  simp only [if_true] at NC
  have ND := Lib.hid (fun w => Number_c tb w hz')
  rw [ht'.1, ht'.2] at ND
  simp only [if_true] at ND
  have A0 := Lib.hid A
  have q1 : (2 : Int) ≤ (cap : Int) := by omega
  clear A V ht ht'
  go_enter Tryd.func57, Tryd.ntmps57
  go_wp2_with fail
  refine (NC.out _).mono ?_
  rintro e w1 ⟨rfl, hb⟩
  have g3' := (hb.cell (p := ⟨g, 3, none⟩) hg).trans g3
  have B1 := Lib.hid hb
  clear hb NC g0 g2 g3 g5
  go_wp2_with fail
  refine (ND.out _).mono ?_
  rintro e w2 ⟨rfl, hb⟩
  have B2 := Lib.hid (bstep B1.out hb)
  clear hb ND B1 g3'
  obtain ⟨le, v0, hb2, own⟩ := A0.out.below B2.out
  obtain ⟨av, capv, rfl⟩ := ownG_form own
  have c0 := (cells_of hb2 0).1
  rw [show (stA S (.slice av S.L.length capv))[0]? = some (.slice av S.L.length capv) from rfl] at c0
  have lt2 := (Array.getElem?_eq_some_iff.1 hb2).1
  obtain ⟨v', w3, hr, ho, hgr⟩ := app2k own ((n : Int) * 1048576, (m : Int)) (Nat.le_trans hB B2.out.size) (by omega) 22
  have ne := ownG_ne own hb2 list_ne
  have hb3 : w3.heap[b]? = some (.cells (stA S (.slice av S.L.length capv)) 62 (0, 0)) := by
    rw [hgr.block b (by simp; omega) (fun e => ne e.symm)]
    exact (Lib.alloc_old w2 _ b lt2).trans hb2
  have z3 := (cells_of hb3 0).2
  have c3 := (cells_of hb3 0).1
  rw [show (stA S (.slice av S.L.length capv))[0]? = some (.slice av S.L.length capv) from rfl] at c3
  have hb4 := heap_set hb3 0 v'
  have KB : Below B w2 w3 := ((Below.refl B w2).alloc (Nat.le_trans hB B2.out.size) _).grown hgr (by simp; have := B2.out.size; omega) own.block
  have KO : Lib.OthersKept 55 (some b) w2 w3 := ((Lib.OthersKept.refl _ _ w2).alloc _).grown hgr (fun g hg => by
    obtain ⟨c, hc⟩ := ownG_kind (World.ownsRow.alloc own _ : OwnG _ _ _ _) g hg
    exact ⟨c, _, hc⟩)
  have W3' : Wk B b w2 w3 := ⟨KB, KO⟩
  obtain ⟨a', cap', e'⟩ := ownG_form ho
  subst e'
  have P := Lib.hid (And.intro hb4 (And.intro (ownG_keep ho fun g hg => heap_set_other 0 (.slice a' (S.L ++ [((n : Int) * 1048576, (m : Int))]).length cap') (ownG_sep ho hb3 list_ne hg)) (((Wk.of B2.out hB).trans W3').set le 0 (.slice a' (S.L ++ [((n : Int) * 1048576, (m : Int))]).length cap'))))
  have RA := Lib.hid hr
  clear hr ho hgr hb2 hb3 hb4 KB KO W3' own ne
  generalize (S.L ++ [((n : Int) * 1048576, (m : Int))]).length = LN at *
  go_wp2_with (at_builtin; refine wpList_append_eq rfl (.tmp 51) (.tmp 56) 22 rfl _ _ _ w3 rfl rfl RA.out ?_)
  go_ret
  exact ⟨rfl, ⟨le, _, P.out.1, P.out.2.1⟩, P.out.2.2⟩
end Go.Proofs.YtmehknhajoemgaaDoor.Wd
