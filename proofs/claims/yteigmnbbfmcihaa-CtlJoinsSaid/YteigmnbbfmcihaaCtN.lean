/-
  Rows of frames of the call's own; the pieces of data.
  Conditions: none.
-/
import Derived.Test.YteigmnbbfmcihaaCtM
namespace Go.Proofs.Yteigmnbbfmcihaa.Ct
open Go.RowKit Go.ChangeShapes Go.WideShapes Go.ChangeAt Go.Joins By
set_option linter.unusedVariables false
set_option linter.unusedSimpArgs false

/-- the cells of frames. -/
def rcs (l : List (Fr × Value)) : List Value := l.flatMap fun x => fvs x.1 x.2
theorem rcs_app (l k : List (Fr × Value)) : rcs (l ++ k) = rcs l ++ rcs k := by simp [rcs]
theorem rcs_at : ∀ (l : List (Fr × Value)) (j : Nat) (x : Fr × Value), l[j]? = some x → ∀ i, i < 10 → (rcs l)[j * 10 + i]? = (fvs x.1 x.2)[i]?
  | [], j, x, h => by simp at h
  | y :: r, 0, x, h => fun i hi => by
    simp at h; subst h
    show (fvs y.1 y.2 ++ rcs r)[0 * 10 + i]? = _
    rw [Nat.zero_mul, Nat.zero_add, List.getElem?_append_left (by rw [fvs_len]; exact hi)]
  | y :: r, j + 1, x, h => fun i hi => by
    have := rcs_at r j x (by simpa using h) i hi
    show (fvs y.1 y.2 ++ rcs r)[(j + 1) * 10 + i]? = _
    rw [List.getElem?_append_right (by rw [fvs_len]; omega), fvs_len, show (j + 1) * 10 + i - 10 = j * 10 + i by omega]
    exact this
/-- a row of frames. -/
def OwnR (w : World) (base : Nat) (v : Value) (l : List (Fr × Value)) : Prop := w.ownsRow base 24 10 v l.length (rcs l) ∧ ∀ u ∈ rcs l, u.oneCell' = true
theorem OwnR.nil (w : World) (base : Nat) : OwnR w base (.slice none 0 0) [] := ⟨World.ownsRow_nil w base _ 10, fun u h => (by cases h)⟩
theorem info_fr3 : (Try.prog.info? 24).map (fun i => (i.zero, i.size, i.bytes)) = some (some (.agg (fvs fr0 (.slice none 0 0)).toArray), 10, 80) := by kernel_rfl
theorem ownR_form {w : World} {base : Nat} {v : Value} {l : List (Fr × Value)} (h : OwnR w base v l) : ∃ a cap, v = .slice a l.length cap := by
  rcases h.1.2 with ⟨hv, h0⟩ | ⟨g, cap, cur, hv, _⟩
  · exact ⟨none, 0, by rw [hv, h0]⟩
  · exact ⟨_, cap, hv⟩
theorem appR {w : World} {base : Nat} {v : Value} {l : List (Fr × Value)} (h : OwnR w base v l) (x : Fr) (y : Value) (hy : y.oneCell' = true) (hb : base ≤ w.heap.size) (hn : (l.length + 1) * 80 ≤ 140737488355328) (ty : TypeId) :
    ∃ v' w', (Builtin.append_ #[37, 37] ty #[v, .slice (some ⟨w.heap.size, 0, none⟩) 1 1]).run Try.prog (w.alloc (.cells (fvs x y).toArray 24)) = .ok v' w' ∧ OwnR w' base v' (l ++ [(x, y)]) ∧ Below base w w' ∧ Gr w v w' v' := by
  obtain ⟨i, hi, hz, hs, hby⟩ := info3 info_fr3
  have one : ∀ u ∈ fvs x y, u.oneCell' = true := fvs_one x y hy
  obtain ⟨v', w', hr, ho, hg, _, hob⟩ := run_append_own_at (P := Try.prog) (w.alloc (.cells (fvs x y).toArray 24)) base 37 ty 24 i (.agg (fvs fr0 (.slice none 0 0)).toArray) 10 80 Try.underlying37 hi hz hs hby rfl (by decide) v l.length (rcs l) (World.ownsRow.alloc h.1 _) ⟨w.heap.size, 0, none⟩ 1 1 (fvs x y) rfl
    (by
      intro j u hj
      have e : (⟨w.heap.size, 0, none⟩ : Addr).add j = ⟨w.heap.size, j, none⟩ := by unfold Addr.add; split <;> simp_all
      rw [e, World.cell?_alloc_mark w _ _ (0, 0) j]
      simpa using hj) one (by unfold maxLen; omega) (by omega) (by simp; omega)
  have hB : Below base w (w.alloc (.cells (fvs x y).toArray 24)) := (Below.refl base w).alloc hb _
  have hB2 := hB.grown hg (by simp; omega) (fun k hk => (h.1.lt k hk).1)
  refine ⟨v', w', hr, ⟨?_, fun u hu => ?_⟩, hB2, (gr_of hg hob).ahead (balloc (brefl w) _)⟩
  · rw [List.length_append, rcs_app, show rcs [(x, y)] = fvs x y by simp [rcs]]
    exact ho
  · rw [rcs_app, show rcs [(x, y)] = fvs x y by simp [rcs]] at hu
    rcases List.mem_append.1 hu with hu | hu
    · exact h.2 u hu
    · exact one u hu
/-- a row of frames with data of the call's own. -/
def Rowf (w : World) (base : Nat) (v : Value) (row : List (Fr × Value)) : Prop := OwnR w base v row ∧ ∀ x ∈ row, Own w base x.2 x.1.dat
theorem Rowf.nil (w : World) (base : Nat) : Rowf w base (.slice none 0 0) [] := ⟨OwnR.nil _ _, fun x h => (by cases h)⟩
theorem types_ne : 5 ≠ 24 := by decide
theorem rows_ne {w : World} {base base' e e' s s' : Nat} {v v' : Value} {n n' : Nat} {xs xs' : List Value} (h : w.ownsRow base e s v n xs) (h' : w.ownsRow base' e' s' v' n' xs') (ne : e ≠ e') : ∀ g, v.ownBlock = some g → v'.ownBlock ≠ some g := by
  intro g hg hg'
  obtain ⟨c, hc⟩ := row_kind h g hg
  obtain ⟨c', hc'⟩ := row_kind h' g hg'
  rw [hc] at hc'
  simp only [Option.some.injEq, Obj.cells.injEq] at hc'
  exact ne hc'.2.1
theorem Rowf.below {w w' : World} {base : Nat} {v : Value} {row : List (Fr × Value)} (h : Rowf w base v row) (k : Below w.heap.size w w') : Rowf w' base v row :=
  ⟨⟨row_below h.1.1 k, h.1.2⟩, fun x hx => row_below (h.2 x hx) k⟩
theorem Rowf.le {w : World} {base base' : Nat} {v : Value} {row : List (Fr × Value)} (h : Rowf w base v row) (hb : base' ≤ base) : Rowf w base' v row :=
  ⟨⟨row_le h.1.1 hb, h.1.2⟩, fun x hx => row_le (h.2 x hx) hb⟩
theorem Rowf.set {w : World} {base : Nat} {v : Value} {row : List (Fr × Value)} (h : Rowf w base v row) {b : Nat} (hb : b < base) (i : Nat) (x : Value) : Rowf (w.setCell ⟨b, i, none⟩ x) base v row :=
  ⟨⟨row_set h.1.1 (fun q => by have := (h.1.1.lt b q).1; omega) i x, h.1.2⟩, fun y hy => row_set (h.2 y hy) (fun q => by have := ((h.2 y hy).lt b q).1; omega) i x⟩
theorem Rowf.snoc {w w' : World} {base : Nat} {v v' : Value} {row : List (Fr × Value)} (h : Rowf w base v row) {x : Fr} {y : Value} (hy : Own w base y x.dat) (o : OwnR w' base v' (row ++ [(x, y)])) (G : Gr w v w' v') : Rowf w' base v' (row ++ [(x, y)]) := by
  refine ⟨o, fun z hz => ?_⟩
  rcases List.mem_append.1 hz with hz | hz
  · exact row_gr (h.2 z hz) G (rows_ne (h.2 z hz) h.1.1 types_ne)
  · rw [List.mem_singleton.1 hz]
    exact row_gr hy G (rows_ne hy h.1.1 types_ne)

/-- how many pieces. -/
def npc (n : Nat) : Nat := if n = 0 then 1 else (n + 467) / 468
theorem npc_iff {n i : Nat} : i < npc n ↔ (i = 0 ∨ 468 * i < n) := by
  unfold npc; split <;> omega
theorem npc_le {n : Nat} (h : n ≤ 65535) : npc n ≤ 141 := by unfold npc; split <;> omega
/-- piece i. -/
def pc (f : Fr) (n : Nat) (g : Nat → Nat) (i : Nat) : Fr := { f with off := ((468 * i : Nat) : Int), more := decide (468 * i + 468 < n), dat := bl (fun k => g (468 * i + k)) (min (468 * i + 468) n - 468 * i) }
set_option maxRecDepth 100000 in
theorem Clone_nil (w : World) : Calls Try.prog 29 #[.slice none 0 0] w fun e w' => e = .returned (.slice none 0 0) ∧ w' = w := by
  go_enter Try.func29, Try.ntmps29
  have EQ := none_nil 0 0 w
  go_wp2_with fail
  go_ret
  exact ⟨rfl, rfl⟩
theorem Clone_any {w : World} {a : Option Addr} {n cap : Nat} {f : Nat → Nat} (S : Sl w (.slice a n cap) (bl f n)) : Calls Try.prog 29 #[.slice a n cap] w fun e w' => (∃ v, e = .returned v ∧ Own w' w.heap.size v (bl f n)) ∧ Below w.heap.size w w' := by
  cases a with
  | some ad =>
    have BA := balloc (brefl w) (.cells #[] 5)
    obtain ⟨v2, w2, r2, o2, b2, s2, nn2⟩ := S.app BA (own0 w w.heap.size (Nat.le_refl _)) (by simp) (by have := S.1; simpa using (by omega : (bl f n).length ≤ 140737488355328)) 22
    rw [List.nil_append] at o2
    have BB := Lib.hid (BA.trans b2)
    have O2 := Lib.hid o2
    clear S o2 b2 s2 nn2 BA
    have EQ : (binOp .eql 22 (.slice (some ad) n cap) (.slice none 0 0)).run Try.prog w = .ok (.bool false) w := by simp [binOp, at_nil w]
    go_enter Try.func29, Try.ntmps29
    go_wp2_with (first | (at_builtin; refine wpList_append_eq rfl _ _ 22 rfl _ _ v2 w2 rfl rfl r2 ?_))
    go_ret
    exact ⟨⟨_, rfl, O2.out⟩, BB.out⟩
  | none =>
    obtain ⟨_, _, a', cap', e, h1, _, _, h4, h5⟩ := S
    simp only [Value.slice.injEq] at e
    obtain ⟨rfl, _, rfl⟩ := e
    obtain rfl := h5 rfl
    obtain rfl : n = 0 := by rw [bl_len] at h1; omega
    exact (Clone_nil w).mono fun e w' ⟨h1, h2⟩ => ⟨⟨_, h1, Own.nil _ _⟩, by rw [h2]; exact brefl w⟩
end Go.Proofs.Yteigmnbbfmcihaa.Ct
