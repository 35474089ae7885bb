/-
  Rows of booleans and of strings; two disks of each kind.
  Conditions: none.
-/
import Derived.Test.YtpnphmfpandmkaaDkR
import Derived.Deep.Grids
import Derived.Deep.Strs
namespace Go.Proofs.Ytpnphmfpandmkaa.Dk
open Go.RowKit Go.ChangeShapes Go.WideShapes Go.ChangeAt Go.Joins Go.Maps By Ct
set_option linter.unusedVariables false
set_option linter.unusedSimpArgs false

/-- the value v is a row of the booleans L. -/
def Bl (w : World) (v : Value) (L : List Bool) : Prop :=
  ∃ a cap, v = .slice a L.length cap ∧ L.length ≤ cap ∧ cap ≤ 9223372036854775807 ∧ ∀ (j : Nat) (x : Bool), L[j]? = some x → ∃ b off, a = some ⟨b, off, none⟩ ∧ b < w.heap.size ∧ w.cell? ⟨b, off + j, none⟩ = some (.bool x)
theorem Bl.below {w w' : World} {v : Value} {L : List Bool} (h : Bl w v L) (q : Below w.heap.size w w') : Bl w' v L := by
  obtain ⟨a, cap, e, h1, h2, h3⟩ := h
  refine ⟨a, cap, e, h1, h2, fun j x hj => ?_⟩
  obtain ⟨b, off, ea, hb, hc⟩ := h3 j x hj
  exact ⟨b, off, ea, Nat.lt_of_lt_of_le hb q.size, (q.cell (p := ⟨b, off + j, none⟩) hb).trans hc⟩
theorem Bl.form {w : World} {v : Value} {L : List Bool} (h : Bl w v L) : ∃ a cap, v = .slice a L.length cap := by
  obtain ⟨a, cap, e, _⟩ := h
  exact ⟨a, cap, e⟩
theorem bl_at {w : World} {a : Option Addr} {cap : Nat} {L : List Bool} (F : Bl w (.slice a L.length cap) L) {j : Nat} {x : Bool} (h : L[j]? = some x) : ∃ b off, a = some ⟨b, off, none⟩ ∧ b < w.heap.size ∧ w.cell? ⟨b, off + j, none⟩ = some (.bool x) := by
  obtain ⟨a', cap', ev, _, _, hB⟩ := F
  cases ev
  exact hB j x h
/-- the value v is a row of the strings L. -/
def Sg (w : World) (v : Value) (L : List ByteArray) : Prop :=
  ∃ a cap, v = .slice a L.length cap ∧ L.length ≤ cap ∧ cap ≤ 9223372036854775807 ∧ (∀ x ∈ L, x.size ≤ 140737488351232) ∧ ∀ (j : Nat) (x : ByteArray), L[j]? = some x → ∃ b off, a = some ⟨b, off, none⟩ ∧ b < w.heap.size ∧ w.cell? ⟨b, off + j, none⟩ = some (.string x)
theorem Sg.below {w w' : World} {v : Value} {L : List ByteArray} (h : Sg w v L) (q : Below w.heap.size w w') : Sg w' v L := by
  obtain ⟨a, cap, e, h1, h2, h4, h3⟩ := h
  refine ⟨a, cap, e, h1, h2, h4, fun j x hj => ?_⟩
  obtain ⟨b, off, ea, hb, hc⟩ := h3 j x hj
  exact ⟨b, off, ea, Nat.lt_of_lt_of_le hb q.size, (q.cell (p := ⟨b, off + j, none⟩) hb).trans hc⟩
theorem Sg.form {w : World} {v : Value} {L : List ByteArray} (h : Sg w v L) : ∃ a cap, v = .slice a L.length cap := by
  obtain ⟨a, cap, e, _⟩ := h
  exact ⟨a, cap, e⟩
theorem sg_at {w : World} {a : Option Addr} {cap : Nat} {L : List ByteArray} (F : Sg w (.slice a L.length cap) L) {j : Nat} {x : ByteArray} (h : L[j]? = some x) : ∃ b off, a = some ⟨b, off, none⟩ ∧ b < w.heap.size ∧ w.cell? ⟨b, off + j, none⟩ = some (.string x) := by
  obtain ⟨a', cap', ev, _, _, _, hB⟩ := F
  cases ev
  exact hB j x h
theorem cellsB : Try.prog.cellsOf 4 = 1 := by kernel_rfl
theorem range_map {α : Type} {B : Nat → α} {n j : Nat} {x : α} (h : ((List.range n).map B)[j]? = some x) : j < n ∧ B j = x := by
  have hj : j < n := by simpa using (List.getElem?_eq_some_iff.1 h).1
  refine ⟨hj, ?_⟩
  rw [List.getElem?_map, List.getElem?_range hj] at h
  simpa using h
set_option maxRecDepth 100000 in
theorem open_bools {H : Type} {enc : TypeId × Value → H} {W : World} {base : Nat} {v : Value} {d : DataW H} {pl : List MemPlace}
    (hv : Value.okWide Try.prog W .any base 37 v) (h : DataW.Trod enc Try.prog W 0 (fun _ => true) true 37 v d pl)
    (hw : ∀ y ∈ DataW.weights Try.prog 37 d, y ≤ reachBytes) : ∃ L, Bl W v L := by
  obtain ⟨a0, len0, cap0, rfl⟩ := okWide_slice Try.underlying37 hv
  obtain ⟨fuel, hf⟩ := h
  have hf' : DataW.trod enc Try.prog W 0 (fun _ => true) true fuel 37 [.slice a0 len0 cap0] = some (d, pl) := by simpa [Value.cells] using hf
  rcases Go.Deep.open_bools Try.underlying37 Try.underlying4 cellsB hf' with ⟨hcs, _⟩ | ⟨a, len, cap, B, hcs, _, hl, hm, hx, hc⟩
  · simp only [List.cons.injEq, and_true] at hcs
    rw [hcs]
    exact ⟨[], none, 0, rfl, by simp, by omega, fun j x hj => by simp at hj⟩
  · simp only [List.cons.injEq, and_true] at hcs
    rw [hcs]
    have hlen : ((List.range len).map B).length = len := by simp
    refine ⟨(List.range len).map B, some a, cap, by rw [hlen], by rw [hlen]; exact hl, by unfold maxLen at hm; omega, fun j x hj => ?_⟩
    obtain ⟨hj', e⟩ := range_map hj
    have q := hc j (by omega)
    obtain ⟨b, off, s⟩ := a
    have c0 := hc 0 (by omega)
    have sp : s = none := by simpa [Addr.add] using World.cell?_spot c0
    subst sp
    have q' : W.cell? ⟨b, off + j, none⟩ = some (.bool (B j)) := by rwa [add_plain] at q
    rw [e] at q'
    exact ⟨b, off, rfl, World.block_lt_of_cell? W _ q', q'⟩
set_option maxRecDepth 100000 in
theorem open_strs {H : Type} {enc : TypeId × Value → H} {W : World} {base : Nat} {v : Value} {d : DataW H} {pl : List MemPlace}
    (hv : Value.okWide Try.prog W .any base 41 v) (h : DataW.Trod enc Try.prog W 0 (fun _ => true) true 41 v d pl)
    (hw : ∀ y ∈ DataW.weights Try.prog 41 d, y ≤ reachBytes) : ∃ L, Sg W v L := by
  obtain ⟨a0, len0, cap0, rfl⟩ := okWide_slice Try.underlying41 hv
  obtain ⟨fuel, hf⟩ := h
  have hf' : DataW.trod enc Try.prog W 0 (fun _ => true) true fuel 41 [.slice a0 len0 cap0] = some (d, pl) := by simpa [Value.cells] using hf
  rcases Go.Deep.open_strs Try.underlying41 Try.underlying9 cellsT hf' with ⟨hcs, _⟩ | ⟨a, len, cap, m, B, hcs, _, hl, hm, hmm, hx, hc⟩
  · simp only [List.cons.injEq, and_true] at hcs
    rw [hcs]
    exact ⟨[], none, 0, rfl, by simp, by omega, fun x hx => (by cases hx), fun j x hj => by simp at hj⟩
  · simp only [List.cons.injEq, and_true] at hcs
    rw [hcs]
    simp only [if_true] at hmm
    subst hmm
    simp only [Prod.mk.injEq] at hx
    have hlen : ((List.range len).map B).length = len := by simp
    refine ⟨(List.range len).map B, some a, m, by rw [hlen], by rw [hlen]; exact hl, by unfold maxLen at hm; omega, fun x hx2 => ?_, fun j x hj => ?_⟩
    · obtain ⟨i, hi, rfl⟩ := List.mem_map.1 hx2
      have b := hw (B i).data.toList.length (by
        rw [hx.1]
        show _ ∈ DataW.weights Try.prog 41 (.slice _ _)
        rw [DataW.weights, Try.underlying41]
        exact List.mem_cons_of_mem _ (List.mem_append_left _ (weightsAll_mem (by rw [DataW.weights]; exact List.mem_singleton.2 rfl) (List.mem_map.2 ⟨i, hi, rfl⟩))))
      unfold reachBytes at b
      rw [tl_len] at b
      omega
    · obtain ⟨hj', e⟩ := range_map hj
      have q := (hc j (by omega)).1
      obtain ⟨b, off, s⟩ := a
      have c0 := (hc 0 (by omega)).1
      have sp : s = none := by simpa [Addr.add] using World.cell?_spot c0
      subst sp
      have q' : W.cell? ⟨b, off + j, none⟩ = some (.string (B j)) := by rwa [add_plain] at q
      rw [e] at q'
      exact ⟨b, off, rfl, World.block_lt_of_cell? W _ q', q'⟩
/-- two disks of each kind, in blocks of their own, none of which lies below w0 or in Z. -/
def Qd (w0 w : World) (Z : Nat → Prop) (d m : Nat) (s : Dk) (X Y : Nat → Prop) (d' m' : Nat) (s' : Dk) (X' Y' : Nat → Prop) : Prop :=
  Bo w d m s X Y ∧ Bo w d' m' s' X' Y' ∧ (∀ k, X k ∨ Y k → ¬ (X' k ∨ Y' k) ∧ w0.heap.size ≤ k ∧ ¬ Z k) ∧ ∀ k, X' k ∨ Y' k → w0.heap.size ≤ k ∧ ¬ Z k
theorem Qd.swap {w0 w : World} {Z : Nat → Prop} {d m : Nat} {s : Dk} {X Y : Nat → Prop} {d' m' : Nat} {s' : Dk} {X' Y' : Nat → Prop} (h : Qd w0 w Z d m s X Y d' m' s' X' Y') : Qd w0 w Z d' m' s' X' Y' d m s X Y :=
  ⟨h.2.1, h.1, fun k hk => ⟨fun q => (h.2.2.1 k q).1 hk, h.2.2.2 k hk⟩, fun k hk => (h.2.2.1 k hk).2⟩
theorem Qd.below {w0 w w' : World} {Z : Nat → Prop} {d m : Nat} {s : Dk} {X Y : Nat → Prop} {d' m' : Nat} {s' : Dk} {X' Y' : Nat → Prop} (h : Qd w0 w Z d m s X Y d' m' s' X' Y') (q : Below w.heap.size w w') : Qd w0 w' Z d m s X Y d' m' s' X' Y' :=
  ⟨h.1.below q, h.2.1.below q, h.2.2⟩
theorem Qd.step {w0 w w' : World} {Z : Nat → Prop} {d m : Nat} {s t : Dk} {X Y : Nat → Prop} {d' m' : Nat} {s' : Dk} {X' Y' : Nat → Prop} (h : Qd w0 w Z d m s X Y d' m' s' X' Y') (b : Bt w w' d m X Y t) (hs : w0.heap.size ≤ w.heap.size) (hz : ∀ k, Z k → k < w.heap.size) :
    ∃ X2 Y2, Qd w0 w' Z d m t X2 Y2 d' m' s' X' Y' := by
  obtain ⟨h1, h2, h3, h4⟩ := h
  obtain ⟨X2, Y2, hb, hx, hy, ht⟩ := b
  have lt' : ∀ k, X' k ∨ Y' k → k < w.heap.size := fun k hk => hk.elim (h2.1.2.2.1 k) (h2.2.1.2.2.1 k)
  refine ⟨X2, Y2, hb, h2.tu ht (fun k q z => (h3 k q).1 (.inl z)) (fun k q z => (h3 k q).1 (.inr z)), fun k hk => ?_, h4⟩
  have cs : (X k ∨ Y k) ∨ w.heap.size ≤ k := hk.elim (fun q => (hx k q).imp .inl id) (fun q => (hy k q).imp .inr id)
  rcases cs with c | c
  · exact h3 k c
  · exact ⟨fun q => by have := lt' k q; omega, by omega, fun q => by have := hz k q; omega⟩
/-- what lies elsewhere stands. -/
theorem Bt.tu {w w' : World} {d m : Nat} {X Y : Nat → Prop} {s' : Dk} (b : Bt w w' d m X Y s') : Tu (fun k => X k ∨ Y k) w w' := by
  obtain ⟨_, _, _, _, _, ht⟩ := b
  exact ht
theorem range_tu {X : Nat → Prop} {w w' : World} {b o : Nat} {vs : List Value} (h : w.rangeAt b o vs) (ht : Tu X w w') (hl : b < w.heap.size) (hx : ¬ X b) : w'.rangeAt b o vs :=
  fun i x hi => (World.cell?_of_block (a := ⟨b, o + i, none⟩) (ht.block b hl hx)).trans (h i x hi)
end Go.Proofs.Ytpnphmfpandmkaa.Dk
