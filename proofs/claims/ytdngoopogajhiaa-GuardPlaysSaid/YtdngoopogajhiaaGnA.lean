/-
  Rows of structs of whatever type, as slices in memory and as rows of the call's own: read, kept, appended to, opened where they are handed in.
  Conditions: none.
-/
import Derived.Test.YtdngoopogajhiaaFlA
import Derived.Deep.SlicePairs
namespace Go.Proofs.Ytdngoopogajhiaa.Gn
open Go.RowKit Go.ChangeShapes Go.WideShapes Go.ChangeAt Go.Joins Fl
set_option linter.unusedVariables false
set_option linter.unusedSimpArgs false

/-- each element is k cells, each a cell's own. -/
structure Ok {α : Type} (enc : α → List Value) (k : Nat) : Prop where
  len : ∀ x, (enc x).length = k
  one : ∀ x, ∀ u ∈ enc x, u.oneCell' = true
  pos : 0 < k
variable {α : Type} {enc : α → List Value} {k : Nat}
def rc (enc : α → List Value) (l : List α) : List Value := l.flatMap enc
theorem rc_app (l m : List α) : rc enc (l ++ m) = rc enc l ++ rc enc m := by simp [rc]
theorem rc_sing (x : α) : rc enc [x] = enc x := by simp [rc]
theorem rc_one (h : Ok enc k) (l : List α) : ∀ u ∈ rc enc l, u.oneCell' = true := by
  intro u hu
  obtain ⟨s, _, q⟩ := List.mem_flatMap.1 hu
  exact h.one s u q
theorem rc_len (h : Ok enc k) : ∀ l : List α, (rc enc l).length = l.length * k
  | [] => by simp [rc]
  | x :: r => by
    show (enc x ++ rc enc r).length = _
    rw [List.length_append, h.len, rc_len h r, List.length_cons, Nat.add_mul, Nat.one_mul, Nat.add_comm]
theorem rc_at (h : Ok enc k) : ∀ (l : List α) (j : Nat) (x : α), l[j]? = some x → ∀ i, i < k → (rc enc l)[j * k + i]? = (enc x)[i]?
  | [], j, x, q => by simp at q
  | y :: r, 0, x, q => fun i hi => by
    simp at q; subst q
    show (enc y ++ rc enc r)[0 * k + i]? = _
    rw [Nat.zero_mul, Nat.zero_add, List.getElem?_append_left (by rw [h.len]; exact hi)]
  | y :: r, j + 1, x, q => fun i hi => by
    have := rc_at h r j x (by simpa using q) i hi
    show (enc y ++ rc enc r)[(j + 1) * k + i]? = _
    rw [Nat.add_mul, Nat.one_mul, List.getElem?_append_right (by rw [h.len]; omega), h.len, show j * k + k + i - k = j * k + i by omega]
    exact this
/-- from off on, block b holds these elements. -/
def Lh (enc : α → List Value) (k : Nat) (w : World) (b off : Nat) (L : List α) : Prop := b < w.heap.size ∧ ∀ j s, L[j]? = some s → w.rangeAt b (off + j * k) (enc s)
theorem Lh.keep {w w' : World} {b off : Nat} {L : List α} (h : Lh enc k w b off L) (e : w'.heap[b]? = w.heap[b]?) (hs : w.heap.size ≤ w'.heap.size) : Lh enc k w' b off L :=
  ⟨Nat.lt_of_lt_of_le h.1 hs, fun j s hj i v hi => (World.cell?_of_block (a := ⟨b, _, none⟩) e).trans (h.2 j s hj i v hi)⟩
theorem Lh.belowB {w w' : World} {b off n : Nat} {L : List α} (h : Lh enc k w b off L) (hn : b < n) (q : Below n w w') : Lh enc k w' b off L := h.keep (q.block b hn) q.size
theorem Lh.below {w w' : World} {b off : Nat} {L : List α} (h : Lh enc k w b off L) (q : Below w.heap.size w w') : Lh enc k w' b off L := h.belowB h.1 q
/-- the value v is a slice of the elements L. -/
def Ss (enc : α → List Value) (k : Nat) (w : World) (v : Value) (L : List α) : Prop :=
  ∃ a cap, v = .slice a L.length cap ∧ L.length ≤ cap ∧ cap ≤ 9223372036854775807 ∧ (0 < L.length → ∃ b off, a = some ⟨b, off, none⟩ ∧ Lh enc k w b off L)
theorem Ss.nil (w : World) : Ss enc k w (.slice none 0 0) [] := ⟨none, 0, rfl, by simp, by omega, fun h => absurd h (by simp)⟩
theorem Ss.below {w w' : World} {v : Value} {L : List α} (h : Ss enc k w v L) (q : Below w.heap.size w w') : Ss enc k w' v L := by
  obtain ⟨a, cap, e, h1, h2, h3⟩ := h
  exact ⟨a, cap, e, h1, h2, fun hn => by obtain ⟨b, off, ea, B⟩ := h3 hn; exact ⟨b, off, ea, B.below q⟩⟩
/-- one of them, as the walk meets it. -/
theorem Ss.at {w : World} {a : Option Addr} {n cap : Nat} {L : List α} (h : Ss enc k w (.slice a n cap) L) {j : Nat} {s : α} (hj : L[j]? = some s) : ∃ b off, a = some ⟨b, off, none⟩ ∧ b < w.heap.size ∧ w.rangeAt b (off + j * k) (enc s) := by
  obtain ⟨a', cap', e, _, _, h3⟩ := h
  cases e
  obtain ⟨b, off, ea, B⟩ := h3 (by have := (List.getElem?_eq_some_iff.1 hj).1; omega)
  exact ⟨b, off, ea, B.1, B.2 j s hj⟩
/-- v is a row of the call's own that holds these elements. -/
def Own (t : TypeId) (enc : α → List Value) (k : Nat) (w : World) (base : Nat) (v : Value) (l : List α) : Prop := w.ownsRow base t k v l.length (rc enc l)
variable {t ts : TypeId}
theorem Own.nil (w : World) (base : Nat) : Own t enc k w base (.slice none 0 0) ([] : List α) := World.ownsRow_nil w base _ k
theorem Own.form {w : World} {base : Nat} {v : Value} {l : List α} (h : Own t enc k w base v l) : ∃ a cap, v = .slice a l.length cap := by
  rcases h.2 with ⟨hv, h0⟩ | ⟨g, cap, cur, hv, _⟩
  · exact ⟨none, 0, by rw [hv, h0]⟩
  · exact ⟨_, cap, hv⟩
theorem Own.keep {w w' : World} {base : Nat} {v : Value} {l : List α} (h : Own t enc k w base v l) (hk : ∀ g, v.ownBlock = some g → base ≤ g → g < w.heap.size → w'.heap[g]? = w.heap[g]?) : Own t enc k w' base v l := by
  refine ⟨h.1, h.2.imp id ?_⟩
  rintro ⟨g, cap, cur, hv, hg, hh, r⟩
  exact ⟨g, cap, cur, hv, hg, (hk g (by rw [hv]; rfl) hg (Array.getElem?_eq_some_iff.1 hh).1).trans hh, r⟩
theorem Own.below {w w' : World} {base : Nat} {v : Value} {l : List α} (h : Own t enc k w base v l) (q : Below w.heap.size w w') : Own t enc k w' base v l := h.keep fun g _ _ hg => q.block g hg
theorem Own.mono {w : World} {base base' : Nat} {v : Value} {l : List α} (h : Own t enc k w base v l) (q : base' ≤ base) : Own t enc k w base' v l := by
  refine ⟨h.1, h.2.imp id ?_⟩
  rintro ⟨g, cap, cur, hv, hg, r⟩
  exact ⟨g, cap, cur, hv, Nat.le_trans q hg, r⟩
theorem Own.block {w : World} {base : Nat} {v : Value} {l : List α} (h : Own t enc k w base v l) : ∀ g, v.ownBlock = some g → base ≤ g ∧ g < w.heap.size := fun g hg => h.lt g hg
theorem Own.ss (hk : Ok enc k) {w : World} {base : Nat} {v : Value} {l : List α} (h : Own t enc k w base v l) : Ss enc k w v l := by
  rcases h.2 with ⟨hv, h0⟩ | ⟨g, cap, cur, hv, hb, hh, hc, hm, hcs, ht⟩
  · exact ⟨none, 0, by rw [hv, h0], by omega, by omega, fun hn => by omega⟩
  · refine ⟨_, cap, hv, hc, by unfold maxLen at hm; omega, fun hn => ⟨g, 0, rfl, (Array.getElem?_eq_some_iff.1 hh).1, fun j s hj i u hi => ?_⟩⟩
    have i2 : i < k := by have := (List.getElem?_eq_some_iff.1 hi).1; rwa [hk.len] at this
    have hl := (List.getElem?_eq_some_iff.1 hj).1
    have q := rc_at hk l j s hj i i2
    have hg : w.ownsRow base t k (.slice (some ⟨g, 0, none⟩) l.length cap) l.length (rc enc l) := hv ▸ h
    have le : j * k + i < l.length * k := by
      have : (j + 1) * k ≤ l.length * k := Nat.mul_le_mul_right k hl
      rw [Nat.add_mul, Nat.one_mul] at this
      omega
    have c := hg.cellAt (j * k + i) le
    rw [Nat.zero_add, c, q]
    exact hi
/-- a literal of one more, appended. -/
theorem app (hk : Ok enc k) (hts : Try.prog.underlying ts = some (.slice t)) {z : Value} {bs : Nat} (hi : (Try.prog.info? t).map (fun i => (i.zero, i.size, i.bytes)) = some (some z, k, bs)) (hz : z.cells.size = k) {w : World} {base : Nat} {v : Value} {l : List α} (h : Own t enc k w base v l) (x : α) (hb : base ≤ w.heap.size) (hn : (l.length + 1) * bs ≤ 140737488355328) (hn2 : l.length + 1 ≤ maxLen) (ty : TypeId) :
    ∃ v' w', (Builtin.append_ #[ts, ts] ty #[v, .slice (some ⟨w.heap.size, 0, none⟩) 1 1]).run Try.prog (w.alloc (.cells (enc x).toArray t)) = .ok v' w' ∧ Own t enc k w' base v' (l ++ [x]) ∧ Below base w w' ∧ (∀ j, j < w.heap.size → v.ownBlock ≠ some j → w'.heap[j]? = w.heap[j]?) ∧ (∀ j, v'.ownBlock = some j → v.ownBlock = some j ∨ w.heap.size ≤ j) := by
  obtain ⟨i, hi, hz', hs, hby⟩ := info_parts3L hi
  obtain ⟨v', w', hr, ho, hg, _, hob⟩ := run_append_own_at (P := Try.prog) (w.alloc (.cells (enc x).toArray t)) base ts ty t i z k bs hts hi hz' hs hby hz hk.pos v l.length (rc enc l) (World.ownsRow.alloc h _) ⟨w.heap.size, 0, none⟩ 1 1 (enc x) (by rw [Nat.one_mul]; exact hk.len x)
    (by
      intro j u hj
      have e : (⟨w.heap.size, 0, none⟩ : Addr).add j = ⟨w.heap.size, j, none⟩ := by unfold Addr.add; split <;> simp_all
      rw [e, World.cell?_alloc_mark w _ _ (0, 0) j]
      simpa using hj) (hk.one x) hn2 hn (by simp; omega)
  have hB : Below base w (w.alloc (.cells (enc x).toArray t)) := (Below.refl base w).alloc hb _
  have hB2 := hB.grown hg (by simp; omega) (fun k hk => (h.lt k hk).1)
  obtain ⟨_, _, _, _, hkp⟩ := hg
  refine ⟨v', w', hr, ?_, hB2, fun j h1 h2 => (hkp j (by simp; omega) (Ne.symm h2)).trans (Below.heap_alloc _ _ j h1), fun j e => ?_⟩
  · unfold Own
    rw [List.length_append, rc_app, rc_sing]
    exact ho
  · rcases hob with q | q
    · exact .inl (q ▸ e)
    · refine .inr ?_
      rw [q] at e
      simp at e
      omega
/-- elements of memory, appended. -/
theorem appS (hk : Ok enc k) (hts : Try.prog.underlying ts = some (.slice t)) {z : Value} {bs : Nat} (hi : (Try.prog.info? t).map (fun i => (i.zero, i.size, i.bytes)) = some (some z, k, bs)) (hz : z.cells.size = k) {w : World} {base : Nat} {v : Value} {l m : List α} (h : Own t enc k w base v l) {b off cap : Nat} (hm : Lh enc k w b off m) (hb : base ≤ w.heap.size) (hn : (l.length + m.length) * bs ≤ 140737488355328) (hn2 : l.length + m.length ≤ maxLen) (ty : TypeId) :
    ∃ v' w', (Builtin.append_ #[ts, ts] ty #[v, .slice (some ⟨b, off, none⟩) m.length cap]).run Try.prog w = .ok v' w' ∧ Own t enc k w' base v' (l ++ m) ∧ Below base w w' ∧ (∀ j, j < w.heap.size → v.ownBlock ≠ some j → w'.heap[j]? = w.heap[j]?) ∧ (∀ j, v'.ownBlock = some j → v.ownBlock = some j ∨ w.heap.size ≤ j) := by
  obtain ⟨i, hi, hz', hs, hby⟩ := info_parts3L hi
  obtain ⟨v', w', hr, ho, hg, _, hob⟩ := run_append_own_at (P := Try.prog) w base ts ty t i z k bs hts hi hz' hs hby hz hk.pos v l.length (rc enc l) h ⟨b, off, none⟩ m.length cap (rc enc m) (rc_len hk m)
    (by
      intro j u hj
      have e : (⟨b, off, none⟩ : Addr).add j = ⟨b, off + j, none⟩ := by unfold Addr.add; split <;> simp_all
      rw [e]
      have jl : j < m.length * k := by have := (List.getElem?_eq_some_iff.1 hj).1; rwa [rc_len hk] at this
      have d1 : j / k < m.length := Nat.div_lt_of_lt_mul (by rw [Nat.mul_comm]; exact jl)
      have d2 : j % k < k := Nat.mod_lt _ hk.pos
      have d3 : j / k * k + j % k = j := by rw [Nat.mul_comm]; exact Nat.div_add_mod j k
      have q := rc_at hk m (j / k) _ (List.getElem?_eq_getElem d1) (j % k) d2
      rw [d3] at q
      have := hm.2 (j / k) _ (List.getElem?_eq_getElem d1) (j % k) u (q ▸ hj)
      rwa [Nat.add_assoc, d3] at this) (rc_one hk m) hn2 hn hb
  have hB2 := (Below.refl base w).grown hg hb (fun k hk => (h.lt k hk).1)
  obtain ⟨_, _, _, _, hkp⟩ := hg
  refine ⟨v', w', hr, ?_, hB2, fun j h1 h2 => hkp j h1 (Ne.symm h2), fun j e => ?_⟩
  · unfold Own
    rw [List.length_append, rc_app]
    exact ho
  · rcases hob with q | q
    · exact .inl (q ▸ e)
    · refine .inr ?_
      rw [q] at e
      simp at e
      omega
/-- a slice of memory, or none, appended to nothing. -/
theorem appN (hk : Ok enc k) (hts : Try.prog.underlying ts = some (.slice t)) {z : Value} {bs : Nat} (hi : (Try.prog.info? t).map (fun i => (i.zero, i.size, i.bytes)) = some (some z, k, bs)) (hz : z.cells.size = k) {w : World} {v : Value} {L : List α} (h : Ss enc k w v L) (hn : L.length * bs ≤ 140737488355328) (hn2 : L.length ≤ maxLen) (ty : TypeId) :
    ∃ v' w', (Builtin.append_ #[ts, ts] ty #[.slice none 0 0, v]).run Try.prog w = .ok v' w' ∧ Own t enc k w' w.heap.size v' L ∧ Below w.heap.size w w' := by
  obtain ⟨a, cap, rfl, h1, h2, h3⟩ := h
  cases L with
  | nil =>
    obtain ⟨i, hi', _, hs, _⟩ := info_parts3L hi
    refine ⟨.slice none 0 0, w, ?_, Own.nil _ _, brefl w⟩
    cases a with
    | none => exact run_append_nothing (P := Try.prog) w ts ts ty t i hts hi' none 0 0 (Nat.le_refl _) _ (Src.ofNil w hts cap)
    | some a => exact run_append_nothing (P := Try.prog) w ts ts ty t i hts hi' none 0 0 (Nat.le_refl _) _ (Src.ofSlice w hts a 0 cap [] (by simp) (by intro j u hj; simp at hj) (by simp))
  | cons x r =>
    obtain ⟨b, off, rfl, B⟩ := h3 (by simp)
    obtain ⟨v', w', p1, p2, p3, _⟩ := appS hk hts hi hz (Own.nil w w.heap.size) B (Nat.le_refl _) (by simpa using hn) (by simpa using hn2) ty
    exact ⟨v', w', p1, by simpa using p2, p3⟩
set_option maxRecDepth 100000 in
/-- a slice that is handed in. -/
theorem open_rows (hk : Ok enc k) {Pr : α → Prop} {H : Type} {enc' : TypeId × Value → H} {W : World} {base bs : Nat} {v : Value} {d : DataW H} {pl : List MemPlace} (hts : Try.prog.underlying ts = some (.slice t)) (hcells : Try.prog.cellsOf t = k) (hbytes : Try.prog.bytesOf t = bs)
    (hopen : ∀ (fuel : Nat) (l : List Value) (x : DataW H × List MemPlace), l.length = k → DataW.trod enc' Try.prog W 0 (fun _ => true) true fuel t l = some x → ∃ s, l = enc s ∧ Pr s)
    (hv : Value.okWide Try.prog W .any base ts v) (h : DataW.Trod enc' Try.prog W 0 (fun _ => true) true ts v d pl)
    (hs : ∀ es sp, d = .slice es sp → (es.length + sp.length) * Try.prog.bytesOf t ≤ reachBytes) : ∃ L, Ss enc k W v L ∧ (∀ s ∈ L, Pr s) ∧ L.length * bs ≤ 140737488351232 := by
  obtain ⟨a0, len0, cap0, rfl⟩ := okWide_slice hts hv
  obtain ⟨fuel, hf0⟩ := h
  have hf : DataW.trod enc' Try.prog W 0 (fun _ => true) true fuel ts [.slice a0 len0 cap0] = some (d, pl) := by simpa [Value.cells] using hf0
  rcases Go.Deep.open_slice hts hf with ⟨hcs, _⟩ | ⟨a, len, cap, m, n, D, Pl, hcs, _, hl, hm, hmm, hx, hall⟩
  · simp only [List.cons.injEq, and_true] at hcs
    rw [hcs]
    exact ⟨[], Ss.nil W, fun x hx => absurd hx (by simp), by simp⟩
  · simp only [List.cons.injEq, and_true] at hcs
    rw [hcs]
    simp only [if_true] at hmm
    subst hmm
    have hd := congrArg Prod.fst hx
    have sz := hs _ _ hd
    rw [hbytes] at sz
    unfold reachBytes at sz
    have each : ∀ i, i < len → ∃ x : α, (∀ j, j < k → W.cell? ((a.add (i * k)).add j) = (enc x)[j]?) ∧ Pr x := by
      intro i hi
      obtain ⟨cs', h1, h2⟩ := hall i (by omega)
      rw [hcells] at h1
      obtain ⟨_, hlen, hcell⟩ := World.cells?_some h1
      obtain ⟨s, e, w⟩ := hopen _ _ _ hlen h2
      subst e
      exact ⟨s, fun j hj => by have := hcell j (by simpa using hj); simpa using this, w⟩
    by_cases hz : len = 0
    · subst hz
      exact ⟨[], ⟨some a, m, rfl, by simp, by unfold maxLen at hm; omega, fun hn => absurd hn (by simp)⟩, fun x hx => absurd hx (by simp), by simp⟩
    obtain ⟨x0, _⟩ := each 0 (by omega)
    haveI : Inhabited α := ⟨x0⟩
    obtain ⟨K, hK⟩ := Go.Deep.choose_lt each
    have hlen : ((List.range len).map fun i => K i).length = len := by simp
    have hget : ∀ j s, ((List.range len).map fun i => K i)[j]? = some s → j < len ∧ s = K j := fun j s hj => by
      have l := (List.getElem?_eq_some_iff.1 hj).1
      rw [hlen] at l
      refine ⟨l, ?_⟩
      simpa [l] using hj.symm
    refine ⟨(List.range len).map fun i => K i, ⟨some a, m, by rw [hlen], by rw [hlen]; exact hl, by unfold maxLen at hm; omega, fun hn => ?_⟩, fun x hx => ?_, by
      rw [hlen]
      simp at sz
      exact Nat.le_trans (Nat.mul_le_mul_right bs (show len ≤ len + (m - len) by omega)) sz⟩
    · rw [hlen] at hn
      have c0 := (hK 0 hn).1 0 hk.pos
      have e0 : ∃ u, (enc (K 0))[0]? = some u := ⟨_, List.getElem?_eq_getElem (by rw [hk.len]; exact hk.pos)⟩
      obtain ⟨u, hu⟩ := e0
      rw [hu] at c0
      obtain ⟨b, off, s⟩ := a
      have sp : s = none := by simpa [Addr.add] using World.cell?_spot c0
      subst sp
      refine ⟨b, off, rfl, World.block_lt_of_cell? W _ (show W.cell? ⟨b, off, none⟩ = some _ by simpa [Addr.add] using c0), fun j s hj i v hi => ?_⟩
      obtain ⟨hj', rfl⟩ := hget j s hj
      have i2 : i < k := by have := (List.getElem?_eq_some_iff.1 hi).1; rwa [hk.len] at this
      have q := (hK j hj').1 i i2
      rw [add_plain, add_plain] at q
      rw [q]
      exact hi
    · obtain ⟨i, hi, rfl⟩ := List.mem_map.1 hx
      exact (hK i (List.mem_range.1 hi)).2
end Go.Proofs.Ytdngoopogajhiaa.Gn
