/-
  Spans in memory; rows of numbers of the call's own.
  Conditions: none.
-/
import Derived.Test.YtppflfodkhhfhaaFlA
import Derived.Test.YtppflfodkhhfhaaFxM
import Derived.Test.YtppflfodkhhfhaaRefM
import Derived.Test.YtppflfodkhhfhaaHuP
import Derived.Deep.SlicePairs
namespace Go.Proofs.Ytppflfodkhhfhaa.Hu
open Go.RowKit Go.ChangeShapes Go.WideShapes Go.ChangeAt Go.Joins Fl
set_option linter.unusedVariables false
set_option linter.unusedSimpArgs false

theorem okN_iff {s : Sn} : okN s ↔ Fx.okS s.lo s.hi := by unfold okN Fx.okS; omega
/-- a span as a value. -/
abbrev NV (s : Sn) : Value := .agg #[.int .i64 s.lo, .int .i64 s.hi]
def nvs (s : Sn) : List Value := [.int .i64 s.lo, .int .i64 s.hi]
theorem nvs_len (s : Sn) : (nvs s).length = 2 := rfl
def i64N (s : Sn) : Prop := (-9223372036854775808 ≤ s.lo ∧ s.lo ≤ 9223372036854775807) ∧ (-9223372036854775808 ≤ s.hi ∧ s.hi ≤ 9223372036854775807)
theorem info_sn : (Try.prog.info? 25).map (·.size) = some 2 := by kernel_rfl
theorem new2 (w : World) (a b : Int) (t : TypeId) : Blk (w.alloc (.cells #[.int .i64 a, .int .i64 b] t)) w.heap.size [.int .i64 a, .int .i64 b] :=
  Blk.new' w #[.int .i64 a, .int .i64 b] t
theorem blk2 {w : World} {b : Nat} {x y : Value} (h : Blk w b [x, y]) {w' : World} (q : Below w.heap.size w w') : w'.cell? ⟨b, 0, none⟩ = some x ∧ w'.cell? ⟨b, 1, none⟩ = some y :=
  ⟨(h.below q).2 0 _ rfl |>.1, (h.below q).2 1 _ rfl |>.1⟩
/-- from off on, block b holds these spans. -/
def Lh (w : World) (b off : Nat) (L : List Sn) : Prop := b < w.heap.size ∧ ∀ j s, L[j]? = some s → w.rangeAt b (off + j * 2) (nvs s)
theorem Lh.below {w w' : World} {b off : Nat} {L : List Sn} (h : Lh w b off L) (q : Below w.heap.size w w') : Lh w' b off L :=
  ⟨Nat.lt_of_lt_of_le h.1 q.size, fun j s hj i v hi => (q.cell (p := ⟨b, _, none⟩) h.1).trans (h.2 j s hj i v hi)⟩
theorem Lh.two {w : World} {b off : Nat} {L : List Sn} (h : Lh w b off L) {k : Nat} {s : Sn} (hk : L[k]? = some s) : w.cell? ⟨b, off + k * 2, none⟩ = some (.int .i64 s.lo) ∧ w.cell? ⟨b, off + k * 2 + 1, none⟩ = some (.int .i64 s.hi) :=
  ⟨h.2 k s hk 0 _ rfl, h.2 k s hk 1 _ rfl⟩
/-- the value v is a slice of the spans L. -/
def Hs (w : World) (v : Value) (L : List Sn) : Prop :=
  ∃ a cap, v = .slice a L.length cap ∧ L.length ≤ cap ∧ cap ≤ 9223372036854775807 ∧ (0 < L.length → ∃ b off, a = some ⟨b, off, none⟩ ∧ Lh w b off L)
theorem Hs.below {w w' : World} {v : Value} {L : List Sn} (h : Hs w v L) (q : Below w.heap.size w w') : Hs w' v L := by
  obtain ⟨a, cap, e, h1, h2, h3⟩ := h
  exact ⟨a, cap, e, h1, h2, fun hn => by obtain ⟨b, off, ea, B⟩ := h3 hn; exact ⟨b, off, ea, B.below q⟩⟩
/-- one of them, as the walk meets it. -/
theorem Hs.at {w : World} {a : Option Addr} {n cap : Nat} {L : List Sn} (h : Hs w (.slice a n cap) L) {k : Nat} {s : Sn} (hk : L[k]? = some s) : ∃ b off, a = some ⟨b, off, none⟩ ∧ w.cell? ⟨b, off + k * 2, none⟩ = some (.int .i64 s.lo) ∧ w.cell? ⟨b, off + k * 2 + 1, none⟩ = some (.int .i64 s.hi) := by
  obtain ⟨a', cap', e, _, _, h3⟩ := h
  cases e
  obtain ⟨b, off, ea, B⟩ := h3 (by have := (List.getElem?_eq_some_iff.1 hk).1; omega)
  exact ⟨b, off, ea, B.two hk⟩
theorem cellsT : Try.prog.cellsOf 23 = 1 := by kernel_rfl
theorem cellsN : Try.prog.cellsOf 25 = 2 := by kernel_rfl
theorem bytesN : Try.prog.bytesOf 25 = 16 := by kernel_rfl
theorem list2 {α : Type} : ∀ {l : List α}, l.length = 2 → ∃ a0 a1, l = [a0, a1]
  | [_, _], _ => ⟨_, _, rfl⟩
set_option maxRecDepth 100000 in
theorem open_cs {H : Type} {enc : TypeId × Value → H} {W : World} {fuel : Nat} {l : List Value} (hl : l.length = 2) {x : DataW H × List MemPlace} (hf : DataW.trod enc Try.prog W 0 (fun _ => true) true fuel 25 l = some x) :
    ∃ s, l = nvs s ∧ i64N s := by
  obtain ⟨c0, c1, rfl⟩ := list2 hl
  obtain ⟨xs, n, _, hx, hl, hlen, hg⟩ := DataW.trod_struct Try.underlying25 hf
  match xs, hlen with
  | [x0, x1], _ =>
    subst hx
    have g0 := hg 0 _ rfl
    have g1 := hg 1 _ rfl
    simp [Value.cells, cellsT] at g0 g1
    obtain ⟨a0, e0, _, w0⟩ := DataW.trod_int Try.underlying23 g0
    obtain ⟨a1, e1, _, w1⟩ := DataW.trod_int Try.underlying23 g1
    simp only [List.cons.injEq, and_true] at e0 e1
    exact ⟨⟨a0, a1⟩, by rw [e0, e1]; rfl, bounds_i64 w0, bounds_i64 w1⟩
theorem open_sn {H : Type} {enc : TypeId × Value → H} {W : World} {base : Nat} {v : Value} {d : DataW H} {pl : List MemPlace}
    (hv : Value.okWide Try.prog W .any base 25 v) (h : DataW.Trod enc Try.prog W 0 (fun _ => true) true 25 v d pl) : ∃ s, v = NV s ∧ i64N s := by
  obtain ⟨cs, rfl, hsz⟩ := okWide_struct Try.underlying25 hv
  obtain ⟨l⟩ := cs
  obtain ⟨fuel, hf⟩ := h
  obtain ⟨s, e, w⟩ := open_cs (l := l) (by simpa using hsz.trans cellsN) hf
  subst e
  exact ⟨s, rfl, w⟩
set_option maxRecDepth 100000 in
theorem open_sns {H : Type} {enc : TypeId × Value → H} {W : World} {base : Nat} {v : Value} {d : DataW H} {pl : List MemPlace}
    (hv : Value.okWide Try.prog W .any base 22 v) (h : DataW.Trod enc Try.prog W 0 (fun _ => true) true 22 v d pl)
    (hs : ∀ es sp, d = .slice es sp → (es.length + sp.length) * Try.prog.bytesOf 25 ≤ reachBytes) : ∃ L, Hs W v L ∧ (∀ s ∈ L, i64N s) ∧ L.length * 16 ≤ 140737488351232 := by
  obtain ⟨a0, len0, cap0, rfl⟩ := okWide_slice Try.underlying22 hv
  obtain ⟨fuel, hf0⟩ := h
  have hf : DataW.trod enc Try.prog W 0 (fun _ => true) true fuel 22 [.slice a0 len0 cap0] = some (d, pl) := by simpa [Value.cells] using hf0
  rcases Go.Deep.open_slice Try.underlying22 hf with ⟨hcs, _⟩ | ⟨a, len, cap, m, n, D, Pl, hcs, _, hl, hm, hmm, hx, hall⟩
  · simp only [List.cons.injEq, and_true] at hcs
    rw [hcs]
    exact ⟨[], ⟨none, 0, rfl, by simp, by omega, fun hn => absurd hn (by simp)⟩, fun x hx => absurd hx (by simp), by simp⟩
  · simp only [List.cons.injEq, and_true] at hcs
    rw [hcs]
    simp only [if_true] at hmm
    subst hmm
    have hd := congrArg Prod.fst hx
    have sz := hs _ _ hd
    rw [bytesN] at sz
    unfold reachBytes at sz
    have each : ∀ i, i < len → ∃ k : Sn, (∀ j, j < 2 → W.cell? ((a.add (i * 2)).add j) = (nvs k)[j]?) ∧ i64N k := by
      intro i hi
      obtain ⟨cs', h1, h2⟩ := hall i (by omega)
      rw [cellsN] at h1
      obtain ⟨_, hlen, hcell⟩ := World.cells?_some h1
      obtain ⟨s, e, w⟩ := open_cs hlen h2
      subst e
      exact ⟨s, fun j hj => by have := hcell j (by simpa using hj); simpa using this, w⟩
    obtain ⟨K, hK⟩ := Go.Deep.choose_lt each
    have hlen : ((List.range len).map fun i => K i).length = len := by simp
    have hget : ∀ j s, ((List.range len).map fun i => K i)[j]? = some s → j < len ∧ s = K j := fun j s hj => by
      have l := (List.getElem?_eq_some_iff.1 hj).1
      rw [hlen] at l
      refine ⟨l, ?_⟩
      simpa [l] using hj.symm
    refine ⟨(List.range len).map fun i => K i, ⟨some a, m, by rw [hlen], by rw [hlen]; exact hl, by unfold maxLen at hm; omega, fun hn => ?_⟩, fun x hx => ?_, by rw [hlen]; simp at sz; omega⟩
    · rw [hlen] at hn
      have c0 : W.cell? ((a.add (0 * 2)).add 0) = some (.int .i64 (K 0).lo) := (hK 0 hn).1 0 (by omega)
      obtain ⟨b, off, s⟩ := a
      have sp : s = none := by simpa [Addr.add] using World.cell?_spot c0
      subst sp
      refine ⟨b, off, rfl, World.block_lt_of_cell? W _ (show W.cell? ⟨b, off, none⟩ = some _ by simpa [Addr.add] using c0), fun j s hj i v hi => ?_⟩
      obtain ⟨hj', rfl⟩ := hget j s hj
      have i2 : i < 2 := by have := (List.getElem?_eq_some_iff.1 hi).1; rwa [nvs_len] at this
      have q := (hK j hj').1 i i2
      rw [add_plain, add_plain] at q
      rw [q]
      exact hi
    · obtain ⟨i, hi, rfl⟩ := List.mem_map.1 hx
      exact (hK i (List.mem_range.1 hi)).2
theorem info_int : (Try.prog.info? 3).map (fun i => (i.zero, i.size, i.bytes)) = some (some (.int .i64 0), 1, 8) := by kernel_rfl
theorem info_parts3L {i? : Option TypeInfo} {z : Value} {s b : Nat} (h : i?.map (fun i => (i.zero, i.size, i.bytes)) = some (some z, s, b)) : ∃ i, i? = some i ∧ i.zero = some z ∧ i.size = s ∧ i.bytes = b := by
  cases i? with
  | none => cases h
  | some i => simp at h; exact ⟨i, rfl, h.1, h.2.1, h.2.2⟩
def ct (l : List Int) : List Value := l.map (Value.int .i64)
theorem ct_app (l k : List Int) : ct (l ++ k) = ct l ++ ct k := by simp [ct]
theorem ct_one (l : List Int) : ∀ u ∈ ct l, u.oneCell' = true := by
  intro u hu
  obtain ⟨x, _, rfl⟩ := List.mem_map.1 hu
  rfl
theorem ct_at (L : List Int) (j : Nat) (x : Int) (h : L[j]? = some x) : (ct L)[j]? = some (.int .i64 x) := by simp [ct, h]
/-- v is a row of the call's own that holds these numbers. -/
def OwnI (w : World) (base : Nat) (v : Value) (l : List Int) : Prop := w.ownsRow base 3 1 v l.length (ct l)
theorem OwnI.nil (w : World) (base : Nat) : OwnI w base (.slice none 0 0) [] := World.ownsRow_nil w base _ 1
theorem OwnI.block {w : World} {base : Nat} {v : Value} {l : List Int} (h : OwnI w base v l) : ∀ k, v.ownBlock = some k → base ≤ k := by
  intro k hk
  rcases h.2 with ⟨rfl, _⟩ | ⟨g, cap, cur, rfl, hb, _⟩
  · simp [Value.ownBlock] at hk
  · simp [Value.ownBlock] at hk
    omega
theorem ownI_below {w w' : World} {base : Nat} {v : Value} {l : List Int} (h : OwnI w base v l) (k : Below w.heap.size w w') : OwnI w' base v l := by
  obtain ⟨h1, h2⟩ := h
  refine ⟨h1, ?_⟩
  rcases h2 with h2 | ⟨g, cap, cur, hv, hb, hh, h5⟩
  · exact .inl h2
  · exact .inr ⟨g, cap, cur, hv, hb, (k.block g (Array.getElem?_eq_some_iff.1 hh).1).trans hh, h5⟩
theorem OwnI.mono {w : World} {base base' : Nat} {v : Value} {l : List Int} (h : OwnI w base v l) (k : base' ≤ base) : OwnI w base' v l := by
  obtain ⟨h1, h2⟩ := h
  refine ⟨h1, ?_⟩
  rcases h2 with h2 | ⟨g, cap, cur, hv, hb, h5⟩
  · exact .inl h2
  · exact .inr ⟨g, cap, cur, hv, Nat.le_trans k hb, h5⟩
/-- v is a slice, and its cells hold these numbers. -/
def Is (w : World) (v : Value) (L : List Int) : Prop :=
  ∃ a cap, v = .slice a L.length cap ∧ L.length ≤ cap ∧ cap ≤ 9223372036854775807 ∧ (0 < L.length → ∃ b off, a = some ⟨b, off, none⟩ ∧ b < w.heap.size ∧ ∀ j x, L[j]? = some x → w.cell? ⟨b, off + j, none⟩ = some (.int .i64 x))
theorem Is.below {w w' : World} {v : Value} {L : List Int} (h : Is w v L) (q : Below w.heap.size w w') : Is w' v L := by
  obtain ⟨a, cap, e, h1, h2, h3⟩ := h
  exact ⟨a, cap, e, h1, h2, fun hn => by obtain ⟨b, off, ea, hb, B⟩ := h3 hn; exact ⟨b, off, ea, Nat.lt_of_lt_of_le hb q.size, fun j x hj => (q.cell (p := ⟨b, _, none⟩) hb).trans (B j x hj)⟩⟩
theorem OwnI.is {w : World} {base : Nat} {v : Value} {L : List Int} (h : OwnI w base v L) : Is w v L := by
  obtain ⟨h1, h2⟩ := h
  rcases h2 with ⟨rfl, h0⟩ | ⟨g, cap, cur, rfl, hb, hh, hc, hm, hs, ht⟩
  · exact ⟨none, 0, by rw [h0], by omega, by omega, fun hn => by omega⟩
  · refine ⟨_, cap, rfl, hc, by unfold maxLen at hm; omega, fun hn => ⟨g, 0, rfl, (Array.getElem?_eq_some_iff.1 hh).1, fun j x hj => ?_⟩⟩
    have hl : j < L.length := (List.getElem?_eq_some_iff.1 hj).1
    have := ct_at L j x hj
    rw [← ht, List.getElem?_take_of_lt (by omega)] at this
    simp only [Array.getElem?_toList] at this
    simp [World.cell?, hh, this]
theorem appI {w : World} {base : Nat} {va : Value} {la : List Int} (hI : OwnI w base va la) (x : Int) (hb : base ≤ w.heap.size) (hn : (la.length + 1) * 8 ≤ 140737488355328) (ty : TypeId) :
    ∃ v' w', (Builtin.append_ #[36, 36] ty #[va, .slice (some ⟨w.heap.size, 0, none⟩) 1 1]).run Try.prog (w.alloc (.cells #[.int .i64 x] 3)) = .ok v' w' ∧ OwnI w' base v' (la ++ [x]) ∧ Below base w w' ∧ w.heap.size ≤ w'.heap.size := by
  obtain ⟨i, hi, hz, hs, hby⟩ := info_parts3L info_int
  obtain ⟨v', w', hr, ho, hg, _, _⟩ := run_append_own_at (P := Try.prog) (w.alloc (.cells #[.int .i64 x] 3)) base 36 ty 3 i (.int .i64 0) 1 8 Try.underlying36 hi hz hs hby rfl (by decide) va la.length (ct la) (World.ownsRow.alloc hI _) ⟨w.heap.size, 0, none⟩ 1 1 (ct [x]) rfl
    (by intro j u hj; cases j with | zero => (simp [ct] at hj; subst hj; simp [Addr.add, go_sem]) | succ j => simp [ct] at hj) (ct_one _) (by unfold maxLen; omega) (by omega) (by simp; omega)
  have hB : Below base w (w.alloc (.cells #[.int .i64 x] 3)) := (Below.refl base w).alloc hb _
  have hB2 := hB.grown hg (by simp; omega) hI.block
  refine ⟨v', w', hr, ?_, hB2, hB2.size⟩
  unfold OwnI
  rw [ct_app, List.length_append]
  exact ho

end Go.Proofs.Ytppflfodkhhfhaa.Hu
