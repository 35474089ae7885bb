/-
  Candidates in memory; rows of numbers of the call's own.
  Conditions: none.
-/
import Derived.Test.YtkmbeogmgehnfaaFlA
import Derived.Test.YtkmbeogmgehnfaaVoP
import Derived.Deep.SlicePairs
namespace Go.Proofs.Ytkmbeogmgehnfaa.Vo
open Go.RowKit Go.ChangeShapes Go.WideShapes Go.ChangeAt Go.Joins Fl
set_option linter.unusedVariables false
set_option linter.unusedSimpArgs false

/-- a candidate as a value. -/
abbrev CV (c : Cd) : Value := .agg #[.int .i64 c.off, .int .i64 c.dist, .int .i64 c.jit, .int .i64 c.str]
def cvs (c : Cd) : List Value := [.int .i64 c.off, .int .i64 c.dist, .int .i64 c.jit, .int .i64 c.str]
theorem cvs_len (c : Cd) : (cvs c).length = 4 := rfl
def i64C (c : Cd) : Prop := (-9223372036854775808 ≤ c.off ∧ c.off ≤ 9223372036854775807) ∧ (-9223372036854775808 ≤ c.dist ∧ c.dist ≤ 9223372036854775807) ∧ (-9223372036854775808 ≤ c.jit ∧ c.jit ≤ 9223372036854775807) ∧ -9223372036854775808 ≤ c.str ∧ c.str ≤ 9223372036854775807
theorem info_cd : (Try.prog.info? 44).map (·.size) = some 4 := by kernel_rfl
theorem new4 (w : World) (a b c d : Int) (t : TypeId) : Blk (w.alloc (.cells #[.int .i64 a, .int .i64 b, .int .i64 c, .int .i64 d] t)) w.heap.size [.int .i64 a, .int .i64 b, .int .i64 c, .int .i64 d] :=
  Blk.new' w #[.int .i64 a, .int .i64 b, .int .i64 c, .int .i64 d] t
theorem new2 (w : World) (a b : Int) (t : TypeId) : Blk (w.alloc (.cells #[.int .i64 a, .int .i64 b] t)) w.heap.size [.int .i64 a, .int .i64 b] :=
  Blk.new' w #[.int .i64 a, .int .i64 b] t
theorem blk2 {w : World} {b : Nat} {x y : Value} (h : Blk w b [x, y]) {w' : World} (q : Below w.heap.size w w') : w'.cell? ⟨b, 0, none⟩ = some x ∧ w'.cell? ⟨b, 1, none⟩ = some y :=
  ⟨(h.below q).2 0 _ rfl |>.1, (h.below q).2 1 _ rfl |>.1⟩
theorem blk4 {w : World} {b : Nat} {x y z u : Value} (h : Blk w b [x, y, z, u]) {w' : World} (q : Below w.heap.size w w') : w'.cell? ⟨b, 0, none⟩ = some x ∧ w'.cell? ⟨b, 1, none⟩ = some y ∧ w'.cell? ⟨b, 2, none⟩ = some z ∧ w'.cell? ⟨b, 3, none⟩ = some u :=
  ⟨(h.below q).2 0 _ rfl |>.1, (h.below q).2 1 _ rfl |>.1, (h.below q).2 2 _ rfl |>.1, (h.below q).2 3 _ rfl |>.1⟩
/-- from off on, block b holds these candidates. -/
def Lh (w : World) (b off : Nat) (L : List Cd) : Prop := b < w.heap.size ∧ ∀ j s, L[j]? = some s → w.rangeAt b (off + j * 4) (cvs s)
theorem Lh.below {w w' : World} {b off : Nat} {L : List Cd} (h : Lh w b off L) (q : Below w.heap.size w w') : Lh w' b off L :=
  ⟨Nat.lt_of_lt_of_le h.1 q.size, fun j s hj i v hi => (q.cell (p := ⟨b, _, none⟩) h.1).trans (h.2 j s hj i v hi)⟩
theorem Lh.four {w : World} {b off : Nat} {L : List Cd} (h : Lh w b off L) {k : Nat} {s : Cd} (hk : L[k]? = some s) : w.cell? ⟨b, off + k * 4, none⟩ = some (.int .i64 s.off) ∧ w.cell? ⟨b, off + k * 4 + 1, none⟩ = some (.int .i64 s.dist) ∧ w.cell? ⟨b, off + k * 4 + 2, none⟩ = some (.int .i64 s.jit) ∧ w.cell? ⟨b, off + k * 4 + 3, none⟩ = some (.int .i64 s.str) :=
  ⟨h.2 k s hk 0 _ rfl, h.2 k s hk 1 _ rfl, h.2 k s hk 2 _ rfl, h.2 k s hk 3 _ rfl⟩
/-- the value v is a slice of the candidates L. -/
def Cs (w : World) (v : Value) (L : List Cd) : Prop :=
  ∃ a cap, v = .slice a L.length cap ∧ L.length ≤ cap ∧ cap ≤ 9223372036854775807 ∧ (0 < L.length → ∃ b off, a = some ⟨b, off, none⟩ ∧ Lh w b off L)
theorem Cs.below {w w' : World} {v : Value} {L : List Cd} (h : Cs w v L) (q : Below w.heap.size w w') : Cs w' v L := by
  obtain ⟨a, cap, e, h1, h2, h3⟩ := h
  exact ⟨a, cap, e, h1, h2, fun hn => by obtain ⟨b, off, ea, B⟩ := h3 hn; exact ⟨b, off, ea, B.below q⟩⟩
/-- one of them, as the walk meets it. -/
theorem Cs.at {w : World} {a : Option Addr} {n cap : Nat} {L : List Cd} (h : Cs w (.slice a n cap) L) {k : Nat} {s : Cd} (hk : L[k]? = some s) : ∃ b off, a = some ⟨b, off, none⟩ ∧ w.cell? ⟨b, off + k * 4, none⟩ = some (.int .i64 s.off) ∧ w.cell? ⟨b, off + k * 4 + 1, none⟩ = some (.int .i64 s.dist) ∧ w.cell? ⟨b, off + k * 4 + 2, none⟩ = some (.int .i64 s.jit) ∧ w.cell? ⟨b, off + k * 4 + 3, none⟩ = some (.int .i64 s.str) := by
  obtain ⟨a', cap', e, _, _, h3⟩ := h
  cases e
  obtain ⟨b, off, ea, B⟩ := h3 (by have := (List.getElem?_eq_some_iff.1 hk).1; omega)
  exact ⟨b, off, ea, B.four hk⟩
theorem cellsT : Try.prog.cellsOf 25 = 1 := by kernel_rfl
theorem cellsI : Try.prog.cellsOf 3 = 1 := by kernel_rfl
theorem cellsC : Try.prog.cellsOf 44 = 4 := by kernel_rfl
theorem bytesC : Try.prog.bytesOf 44 = 32 := by kernel_rfl
theorem list4 {α : Type} : ∀ {l : List α}, l.length = 4 → ∃ a0 a1 a2 a3, l = [a0, a1, a2, a3]
  | [_, _, _, _], _ => ⟨_, _, _, _, rfl⟩
set_option maxRecDepth 100000 in
theorem open_cc {H : Type} {enc : TypeId × Value → H} {W : World} {fuel : Nat} {l : List Value} (hl : l.length = 4) {x : DataW H × List MemPlace} (hf : DataW.trod enc Try.prog W 0 (fun _ => true) true fuel 44 l = some x) :
    ∃ s, l = cvs s ∧ i64C s := by
  obtain ⟨c0, c1, c2, c3, rfl⟩ := list4 hl
  obtain ⟨xs, n, _, hx, hl, hlen, hg⟩ := DataW.trod_struct Try.underlying44 hf
  match xs, hlen with
  | [x0, x1, x2, x3], _ =>
    subst hx
    have g0 := hg 0 _ rfl
    have g1 := hg 1 _ rfl
    have g2 := hg 2 _ rfl
    have g3 := hg 3 _ rfl
    simp [Value.cells, cellsT, cellsI] at g0 g1 g2 g3
    obtain ⟨a0, e0, _, w0⟩ := DataW.trod_int Try.underlying25 g0
    obtain ⟨a1, e1, _, w1⟩ := DataW.trod_int Try.underlying25 g1
    obtain ⟨a2, e2, _, w2⟩ := DataW.trod_int Try.underlying25 g2
    obtain ⟨a3, e3, _, w3⟩ := DataW.trod_int Try.underlying3 g3
    simp only [List.cons.injEq, and_true] at e0 e1 e2 e3
    exact ⟨⟨a0, a1, a2, a3⟩, by rw [e0, e1, e2, e3]; rfl, bounds_i64 w0, bounds_i64 w1, bounds_i64 w2, bounds_i64 w3⟩
set_option maxRecDepth 100000 in
theorem open_cds {H : Type} {enc : TypeId × Value → H} {W : World} {base : Nat} {v : Value} {d : DataW H} {pl : List MemPlace}
    (hv : Value.okWide Try.prog W .any base 22 v) (h : DataW.Trod enc Try.prog W 0 (fun _ => true) true 22 v d pl)
    (hs : ∀ es sp, d = .slice es sp → (es.length + sp.length) * Try.prog.bytesOf 44 ≤ reachBytes) : ∃ L, Cs W v L ∧ (∀ s ∈ L, i64C s) ∧ L.length * 32 ≤ 140737488351232 := by
  obtain ⟨a0, len0, cap0, rfl⟩ := okWide_slice Try.underlying22 hv
  obtain ⟨fuel, hf0⟩ := h
  have hf : DataW.trod enc Try.prog W 0 (fun _ => true) true fuel 22 [.slice a0 len0 cap0] = some (d, pl) := by simpa [Value.cells] using hf0
  rcases Go.Deep.open_slice Try.underlying22 hf with ⟨hcs, _⟩ | ⟨a, len, cap, m, n, D, Pl, hcs, _, hl, hm, hmm, hx, hall⟩
  · simp only [List.cons.injEq, and_true] at hcs
    rw [hcs]
    exact ⟨[], ⟨none, 0, rfl, by simp, by omega, fun hn => absurd hn (by simp)⟩, fun x hx => absurd hx (by simp), by simp⟩
  · simp only [List.cons.injEq, and_true] at hcs
    rw [hcs]
    simp only [if_true] at hmm
    subst hmm
    have hd := congrArg Prod.fst hx
    have sz := hs _ _ hd
    rw [bytesC] at sz
    unfold reachBytes at sz
    have each : ∀ i, i < len → ∃ k : Cd, (∀ j, j < 4 → W.cell? ((a.add (i * 4)).add j) = (cvs k)[j]?) ∧ i64C k := by
      intro i hi
      obtain ⟨cs', h1, h2⟩ := hall i (by omega)
      rw [cellsC] at h1
      obtain ⟨_, hlen, hcell⟩ := World.cells?_some h1
      obtain ⟨s, e, w⟩ := open_cc hlen h2
      subst e
      exact ⟨s, fun j hj => by have := hcell j (by simpa using hj); simpa using this, w⟩
    obtain ⟨K, hK⟩ := Go.Deep.choose_lt each
    have hlen : ((List.range len).map fun i => K i).length = len := by simp
    have hget : ∀ j s, ((List.range len).map fun i => K i)[j]? = some s → j < len ∧ s = K j := fun j s hj => by
      have l := (List.getElem?_eq_some_iff.1 hj).1
      rw [hlen] at l
      refine ⟨l, ?_⟩
      simpa [l] using hj.symm
    refine ⟨(List.range len).map fun i => K i, ⟨some a, m, by rw [hlen], by rw [hlen]; exact hl, by unfold maxLen at hm; omega, fun hn => ?_⟩, fun x hx => ?_, by rw [hlen]; simp at sz; omega⟩
    · rw [hlen] at hn
      have c0 : W.cell? ((a.add (0 * 4)).add 0) = some (.int .i64 (K 0).off) := (hK 0 hn).1 0 (by omega)
      obtain ⟨b, off, s⟩ := a
      have sp : s = none := by simpa [Addr.add] using World.cell?_spot c0
      subst sp
      refine ⟨b, off, rfl, World.block_lt_of_cell? W _ (show W.cell? ⟨b, off, none⟩ = some _ by simpa [Addr.add] using c0), fun j s hj i v hi => ?_⟩
      obtain ⟨hj', rfl⟩ := hget j s hj
      have i2 : i < 4 := by have := (List.getElem?_eq_some_iff.1 hi).1; rwa [cvs_len] at this
      have q := (hK j hj').1 i i2
      rw [add_plain, add_plain] at q
      rw [q]
      exact hi
    · obtain ⟨i, hi, rfl⟩ := List.mem_map.1 hx
      exact (hK i (List.mem_range.1 hi)).2
theorem info_int : (Try.prog.info? 3).map (fun i => (i.zero, i.size, i.bytes)) = some (some (.int .i64 0), 1, 8) := by kernel_rfl
theorem info_parts3L {i? : Option TypeInfo} {z : Value} {s b : Nat} (h : i?.map (fun i => (i.zero, i.size, i.bytes)) = some (some z, s, b)) : ∃ i, i? = some i ∧ i.zero = some z ∧ i.size = s ∧ i.bytes = b := by
  cases i? with
  | none => cases h
  | some i => simp at h; exact ⟨i, rfl, h.1, h.2.1, h.2.2⟩
def ct (l : List Int) : List Value := l.map (Value.int .i64)
theorem ct_app (l k : List Int) : ct (l ++ k) = ct l ++ ct k := by simp [ct]
theorem ct_one (l : List Int) : ∀ u ∈ ct l, u.oneCell' = true := by
  intro u hu
  obtain ⟨x, _, rfl⟩ := List.mem_map.1 hu
  rfl
theorem ct_at (L : List Int) (j : Nat) (x : Int) (h : L[j]? = some x) : (ct L)[j]? = some (.int .i64 x) := by simp [ct, h]
/-- v is a row of the call's own that holds these numbers. -/
def OwnI (w : World) (base : Nat) (v : Value) (l : List Int) : Prop := w.ownsRow base 3 1 v l.length (ct l)
theorem OwnI.nil (w : World) (base : Nat) : OwnI w base (.slice none 0 0) [] := World.ownsRow_nil w base _ 1
theorem OwnI.block {w : World} {base : Nat} {v : Value} {l : List Int} (h : OwnI w base v l) : ∀ k, v.ownBlock = some k → base ≤ k := by
  intro k hk
  rcases h.2 with ⟨rfl, _⟩ | ⟨g, cap, cur, rfl, hb, _⟩
  · simp [Value.ownBlock] at hk
  · simp [Value.ownBlock] at hk
    omega
theorem ownI_below {w w' : World} {base : Nat} {v : Value} {l : List Int} (h : OwnI w base v l) (k : Below w.heap.size w w') : OwnI w' base v l := by
  obtain ⟨h1, h2⟩ := h
  refine ⟨h1, ?_⟩
  rcases h2 with h2 | ⟨g, cap, cur, hv, hb, hh, h5⟩
  · exact .inl h2
  · exact .inr ⟨g, cap, cur, hv, hb, (k.block g (Array.getElem?_eq_some_iff.1 hh).1).trans hh, h5⟩
theorem OwnI.mono {w : World} {base base' : Nat} {v : Value} {l : List Int} (h : OwnI w base v l) (k : base' ≤ base) : OwnI w base' v l := by
  obtain ⟨h1, h2⟩ := h
  refine ⟨h1, ?_⟩
  rcases h2 with h2 | ⟨g, cap, cur, hv, hb, h5⟩
  · exact .inl h2
  · exact .inr ⟨g, cap, cur, hv, Nat.le_trans k hb, h5⟩
/-- v is a slice, and its cells hold these numbers. -/
def Is (w : World) (v : Value) (L : List Int) : Prop :=
  ∃ a cap, v = .slice a L.length cap ∧ L.length ≤ cap ∧ cap ≤ 9223372036854775807 ∧ (0 < L.length → ∃ b off, a = some ⟨b, off, none⟩ ∧ b < w.heap.size ∧ ∀ j x, L[j]? = some x → w.cell? ⟨b, off + j, none⟩ = some (.int .i64 x))
theorem Is.below {w w' : World} {v : Value} {L : List Int} (h : Is w v L) (q : Below w.heap.size w w') : Is w' v L := by
  obtain ⟨a, cap, e, h1, h2, h3⟩ := h
  exact ⟨a, cap, e, h1, h2, fun hn => by obtain ⟨b, off, ea, hb, B⟩ := h3 hn; exact ⟨b, off, ea, Nat.lt_of_lt_of_le hb q.size, fun j x hj => (q.cell (p := ⟨b, _, none⟩) hb).trans (B j x hj)⟩⟩
theorem OwnI.is {w : World} {base : Nat} {v : Value} {L : List Int} (h : OwnI w base v L) : Is w v L := by
  obtain ⟨h1, h2⟩ := h
  rcases h2 with ⟨rfl, h0⟩ | ⟨g, cap, cur, rfl, hb, hh, hc, hm, hs, ht⟩
  · exact ⟨none, 0, by rw [h0], by omega, by omega, fun hn => by omega⟩
  · refine ⟨_, cap, rfl, hc, by unfold maxLen at hm; omega, fun hn => ⟨g, 0, rfl, (Array.getElem?_eq_some_iff.1 hh).1, fun j x hj => ?_⟩⟩
    have hl : j < L.length := (List.getElem?_eq_some_iff.1 hj).1
    have := ct_at L j x hj
    rw [← ht, List.getElem?_take_of_lt (by omega)] at this
    simp only [Array.getElem?_toList] at this
    simp [World.cell?, hh, this]
theorem appI {w : World} {base : Nat} {va : Value} {la : List Int} (hI : OwnI w base va la) (x : Int) (hb : base ≤ w.heap.size) (hn : (la.length + 1) * 8 ≤ 140737488355328) (ty : TypeId) :
    ∃ v' w', (Builtin.append_ #[23, 23] ty #[va, .slice (some ⟨w.heap.size, 0, none⟩) 1 1]).run Try.prog (w.alloc (.cells #[.int .i64 x] 3)) = .ok v' w' ∧ OwnI w' base v' (la ++ [x]) ∧ Below base w w' ∧ w.heap.size ≤ w'.heap.size := by
  obtain ⟨i, hi, hz, hs, hby⟩ := info_parts3L info_int
  obtain ⟨v', w', hr, ho, hg, _, _⟩ := run_append_own_at (P := Try.prog) (w.alloc (.cells #[.int .i64 x] 3)) base 23 ty 3 i (.int .i64 0) 1 8 Try.underlying23 hi hz hs hby rfl (by decide) va la.length (ct la) (World.ownsRow.alloc hI _) ⟨w.heap.size, 0, none⟩ 1 1 (ct [x]) rfl
    (by intro j u hj; cases j with | zero => (simp [ct] at hj; subst hj; simp [Addr.add, go_sem]) | succ j => simp [ct] at hj) (ct_one _) (by unfold maxLen; omega) (by omega) (by simp; omega)
  have hB : Below base w (w.alloc (.cells #[.int .i64 x] 3)) := (Below.refl base w).alloc hb _
  have hB2 := hB.grown hg (by simp; omega) hI.block
  refine ⟨v', w', hr, ?_, hB2, hB2.size⟩
  unfold OwnI
  rw [ct_app, List.length_append]
  exact ho

end Go.Proofs.Ytkmbeogmgehnfaa.Vo
