/-
  Acts in memory, as ClockPlays and ClockRises are handed them.
  Conditions: none.
-/
import Derived.Test.YtojcckikgnbgiaaFlA
import Derived.Deep.SlicePairs
namespace Go.Proofs.Ytojcckikgnbgiaa.Ck
open Go.RowKit Go.ChangeShapes Go.WideShapes Go.ChangeAt Go.Joins Fl
set_option linter.unusedVariables false
set_option linter.unusedSimpArgs false

/-- an act. -/
structure Ac where
  read : Bool
  more : Int
  off : Int
instance : Inhabited Ac := ⟨⟨false, 0, 0⟩⟩
abbrev AV (c : Ac) : Value := .agg #[.bool c.read, .int .i64 c.more, .int .i64 c.off]
def avs (c : Ac) : List Value := [.bool c.read, .int .i64 c.more, .int .i64 c.off]
theorem avs_len (c : Ac) : (avs c).length = 3 := rfl
def i64A (c : Ac) : Prop := (-9223372036854775808 ≤ c.more ∧ c.more ≤ 9223372036854775807) ∧ -9223372036854775808 ≤ c.off ∧ c.off ≤ 9223372036854775807
/-- from off on, block b holds these acts. -/
def La (w : World) (b off : Nat) (L : List Ac) : Prop := b < w.heap.size ∧ ∀ j s, L[j]? = some s → w.rangeAt b (off + j * 3) (avs s)
theorem La.keep {w w' : World} {b off : Nat} {L : List Ac} (h : La w b off L) {n : Nat} (hn : b < n) (q : Below n w w') : La w' b off L :=
  ⟨Nat.lt_of_lt_of_le h.1 q.size, fun j s hj i v hi => (q.cell (p := ⟨b, _, none⟩) hn).trans (h.2 j s hj i v hi)⟩
theorem La.below {w w' : World} {b off : Nat} {L : List Ac} (h : La w b off L) (q : Below w.heap.size w w') : La w' b off L := h.keep h.1 q
theorem La.three {w : World} {b off : Nat} {L : List Ac} (h : La w b off L) {k : Nat} {s : Ac} (hk : L[k]? = some s) : w.cell? ⟨b, off + k * 3, none⟩ = some (.bool s.read) ∧ w.cell? ⟨b, off + k * 3 + 1, none⟩ = some (.int .i64 s.more) ∧ w.cell? ⟨b, off + k * 3 + 2, none⟩ = some (.int .i64 s.off) :=
  ⟨h.2 k s hk 0 _ rfl, h.2 k s hk 1 _ rfl, h.2 k s hk 2 _ rfl⟩
/-- the value v is a slice of the acts L. -/
def As (w : World) (v : Value) (L : List Ac) : Prop :=
  ∃ a cap, v = .slice a L.length cap ∧ L.length ≤ cap ∧ cap ≤ 9223372036854775807 ∧ (0 < L.length → ∃ b off, a = some ⟨b, off, none⟩ ∧ La w b off L)
theorem As.below {w w' : World} {v : Value} {L : List Ac} (h : As w v L) (q : Below w.heap.size w w') : As w' v L := by
  obtain ⟨a, cap, e, h1, h2, h3⟩ := h
  exact ⟨a, cap, e, h1, h2, fun hn => by obtain ⟨b, off, ea, B⟩ := h3 hn; exact ⟨b, off, ea, B.below q⟩⟩
theorem As.at {w : World} {a : Option Addr} {n cap : Nat} {L : List Ac} (h : As w (.slice a n cap) L) {k : Nat} {s : Ac} (hk : L[k]? = some s) : ∃ b off, a = some ⟨b, off, none⟩ ∧ w.cell? ⟨b, off + k * 3, none⟩ = some (.bool s.read) ∧ w.cell? ⟨b, off + k * 3 + 1, none⟩ = some (.int .i64 s.more) ∧ w.cell? ⟨b, off + k * 3 + 2, none⟩ = some (.int .i64 s.off) := by
  obtain ⟨a', cap', e, _, _, h3⟩ := h
  cases e
  obtain ⟨b, off, ea, B⟩ := h3 (by have := (List.getElem?_eq_some_iff.1 hk).1; omega)
  exact ⟨b, off, ea, B.three hk⟩
theorem cellsB : Try.prog.cellsOf 4 = 1 := by kernel_rfl
theorem cellsT : Try.prog.cellsOf 22 = 1 := by kernel_rfl
theorem cellsA : Try.prog.cellsOf 33 = 3 := by kernel_rfl
theorem bytesA : Try.prog.bytesOf 33 = 24 := by kernel_rfl
theorem list3 {α : Type} : ∀ {l : List α}, l.length = 3 → ∃ a0 a1 a2, l = [a0, a1, a2]
  | [_, _, _], _ => ⟨_, _, _, rfl⟩
set_option maxRecDepth 100000 in
theorem open_act {H : Type} {enc : TypeId × Value → H} {W : World} {fuel : Nat} {l : List Value} (hl : l.length = 3) {x : DataW H × List MemPlace} (hf : DataW.trod enc Try.prog W 0 (fun _ => true) true fuel 33 l = some x) :
    ∃ s, l = avs s ∧ i64A s := by
  obtain ⟨c0, c1, c2, rfl⟩ := list3 hl
  obtain ⟨xs, n, _, hx, hl, hlen, hg⟩ := DataW.trod_struct Try.underlying33 hf
  match xs, hlen with
  | [x0, x1, x2], _ =>
    subst hx
    have g0 := hg 0 _ rfl
    have g1 := hg 1 _ rfl
    have g2 := hg 2 _ rfl
    simp [Value.cells, cellsT, cellsB] at g0 g1 g2
    obtain ⟨a0, e0, _⟩ := DataW.trod_bool Try.underlying4 g0
    obtain ⟨a1, e1, _, w1⟩ := DataW.trod_int Try.underlying22 g1
    obtain ⟨a2, e2, _, w2⟩ := DataW.trod_int Try.underlying22 g2
    simp only [List.cons.injEq, and_true] at e0 e1 e2
    exact ⟨⟨a0, a1, a2⟩, by rw [e0, e1, e2]; rfl, bounds_i64 w1, bounds_i64 w2⟩
set_option maxRecDepth 100000 in
theorem open_acts {H : Type} {enc : TypeId × Value → H} {W : World} {base : Nat} {v : Value} {d : DataW H} {pl : List MemPlace}
    (hv : Value.okWide Try.prog W .any base 23 v) (h : DataW.Trod enc Try.prog W 0 (fun _ => true) true 23 v d pl)
    (hs : ∀ es sp, d = .slice es sp → (es.length + sp.length) * Try.prog.bytesOf 33 ≤ reachBytes) : ∃ L, As W v L ∧ (∀ s ∈ L, i64A s) ∧ L.length * 24 ≤ 140737488351232 := by
  obtain ⟨a0, len0, cap0, rfl⟩ := okWide_slice Try.underlying23 hv
  obtain ⟨fuel, hf0⟩ := h
  have hf : DataW.trod enc Try.prog W 0 (fun _ => true) true fuel 23 [.slice a0 len0 cap0] = some (d, pl) := by simpa [Value.cells] using hf0
  rcases Go.Deep.open_slice Try.underlying23 hf with ⟨hcs, _⟩ | ⟨a, len, cap, m, n, D, Pl, hcs, _, hl, hm, hmm, hx, hall⟩
  · simp only [List.cons.injEq, and_true] at hcs
    rw [hcs]
    exact ⟨[], ⟨none, 0, rfl, by simp, by omega, fun hn => absurd hn (by simp)⟩, fun x hx => absurd hx (by simp), by simp⟩
  · simp only [List.cons.injEq, and_true] at hcs
    rw [hcs]
    simp only [if_true] at hmm
    subst hmm
    have hd := congrArg Prod.fst hx
    have sz := hs _ _ hd
    rw [bytesA] at sz
    unfold reachBytes at sz
    have each : ∀ i, i < len → ∃ k : Ac, (∀ j, j < 3 → W.cell? ((a.add (i * 3)).add j) = (avs k)[j]?) ∧ i64A k := by
      intro i hi
      obtain ⟨cs', h1, h2⟩ := hall i (by omega)
      rw [cellsA] at h1
      obtain ⟨_, hlen, hcell⟩ := World.cells?_some h1
      obtain ⟨s, e, w⟩ := open_act hlen h2
      subst e
      exact ⟨s, fun j hj => by have := hcell j (by simpa using hj); simpa using this, w⟩
    obtain ⟨K, hK⟩ := Go.Deep.choose_lt each
    have hlen : ((List.range len).map fun i => K i).length = len := by simp
    have hget : ∀ j s, ((List.range len).map fun i => K i)[j]? = some s → j < len ∧ s = K j := fun j s hj => by
      have l := (List.getElem?_eq_some_iff.1 hj).1
      rw [hlen] at l
      refine ⟨l, ?_⟩
      simpa [l] using hj.symm
    refine ⟨(List.range len).map fun i => K i, ⟨some a, m, by rw [hlen], by rw [hlen]; exact hl, by unfold maxLen at hm; omega, fun hn => ?_⟩, fun x hx => ?_, by rw [hlen]; simp at sz; omega⟩
    · rw [hlen] at hn
      have c0 : W.cell? ((a.add (0 * 3)).add 0) = some (.bool (K 0).read) := (hK 0 hn).1 0 (by omega)
      obtain ⟨b, off, s⟩ := a
      have sp : s = none := by simpa [Addr.add] using World.cell?_spot c0
      subst sp
      refine ⟨b, off, rfl, World.block_lt_of_cell? W _ (show W.cell? ⟨b, off, none⟩ = some _ by simpa [Addr.add] using c0), fun j s hj i v hi => ?_⟩
      obtain ⟨hj', rfl⟩ := hget j s hj
      have i2 : i < 3 := by have := (List.getElem?_eq_some_iff.1 hi).1; rwa [avs_len] at this
      have q := (hK j hj').1 i i2
      rw [add_plain, add_plain] at q
      rw [q]
      exact hi
    · obtain ⟨i, hi, rfl⟩ := List.mem_map.1 hx
      exact (hK i (List.mem_range.1 hi)).2
end Go.Proofs.Ytojcckikgnbgiaa.Ck
