/-
  Rows of times that a call owns; slices of times.
  Conditions: none.
-/
import Derived.Test.YtoecgabdjpgleaaGreatDoorCvZ
import Derived.Maps.AppendAt
import Derived.Laws.OwnMore
import Derived.OwnWalk
import Derived.Below
namespace Go.Proofs.YtoecgabdjpgleaaGreatDoor.Lp
open Go.RowKit Cv
set_option linter.unusedVariables false
set_option linter.unusedSimpArgs false

theorem wpList_append_eqL {P : Program} {w : World} {ops : Array Oper} {rest : List Oper} {o : Oper} {a : Act} {Q : Exit → Act → World → Prop} (hgd : o.guard = none) (s x : Operand) (t : TypeId)
    (ho : o.op = .call { callee := .builtin .append, args := #[s, x], argTypes := #[t, t] }) (v xv v' : Value) (w' : World) (hs : a.eval s = v) (hx : a.eval x = xv)
    (hr : (Builtin.append_ #[t, t] o.type #[v, xv]).run P w = .ok v' w') (h : wpList P ops Q rest (a.put o.dst v') w') : wpList P ops Q (o :: rest) a w := by
  refine wpList_plain hgd fun K hK => ?_
  unfold Oper.wp execOp
  simp only [ho, resolve, invoke, builtin, Sem.run_bind, Sem.run_pure, Result.andThen_ok, List.map_toArray, List.map_cons, List.map_nil, hs, hx, hr]
  exact hK _ _ h
theorem info_time : (Tryz.prog.info? 23).map (fun i => (i.zero, i.size, i.bytes)) = some (some (.int .i64 0), 1, 8) := by kernel_rfl
theorem info_parts3L {i? : Option TypeInfo} {z : Value} {s b : Nat} (h : i?.map (fun i => (i.zero, i.size, i.bytes)) = some (some z, s, b)) : ∃ i, i? = some i ∧ i.zero = some z ∧ i.size = s ∧ i.bytes = b := by
  cases i? with
  | none => cases h
  | some i => simp at h; exact ⟨i, rfl, h.1, h.2.1, h.2.2⟩
def ct (l : List Int) : List Value := l.map (Value.int .i64)
theorem ct_app (l k : List Int) : ct (l ++ k) = ct l ++ ct k := by simp [ct]
theorem ct_one (l : List Int) : ∀ u ∈ ct l, u.oneCell' = true := by
  intro u hu
  obtain ⟨x, _, rfl⟩ := List.mem_map.1 hu
  rfl
theorem ct_at (L : List Int) (j : Nat) (x : Int) (h : L[j]? = some x) : (ct L)[j]? = some (.int .i64 x) := by simp [ct, h]
/-- v is a row of the call's own that holds these times. -/
def OwnT (w : World) (base : Nat) (v : Value) (l : List Int) : Prop := w.ownsRow base 23 1 v l.length (ct l)
theorem OwnT.nil (w : World) (base : Nat) : OwnT w base (.slice none 0 0) [] := World.ownsRow_nil w base _ 1
theorem OwnT.block {w : World} {base : Nat} {v : Value} {l : List Int} (h : OwnT w base v l) : ∀ k, v.ownBlock = some k → base ≤ k := by
  intro k hk
  rcases h.2 with ⟨rfl, _⟩ | ⟨g, cap, cur, rfl, hb, _⟩
  · simp [Value.ownBlock] at hk
  · simp [Value.ownBlock] at hk
    omega
theorem ownT_below {w w' : World} {base : Nat} {v : Value} {l : List Int} (h : OwnT w base v l) (k : Below w.heap.size w w') : OwnT w' base v l := by
  obtain ⟨h1, h2⟩ := h
  refine ⟨h1, ?_⟩
  rcases h2 with h2 | ⟨g, cap, cur, hv, hb, hh, h5⟩
  · exact .inl h2
  · exact .inr ⟨g, cap, cur, hv, hb, (k.block g (Array.getElem?_eq_some_iff.1 hh).1).trans hh, h5⟩
theorem OwnT.mono {w : World} {base base' : Nat} {v : Value} {l : List Int} (h : OwnT w base v l) (k : base' ≤ base) : OwnT w base' v l := by
  obtain ⟨h1, h2⟩ := h
  refine ⟨h1, ?_⟩
  rcases h2 with h2 | ⟨g, cap, cur, hv, hb, h5⟩
  · exact .inl h2
  · exact .inr ⟨g, cap, cur, hv, Nat.le_trans k hb, h5⟩
/-- v is a slice, and its cells hold these times. -/
def Ts (w : World) (v : Value) (L : List Int) : Prop :=
  ∃ a cap, v = .slice a L.length cap ∧ L.length ≤ cap ∧ cap ≤ 9223372036854775807 ∧ (0 < L.length → ∃ b off, a = some ⟨b, off, none⟩ ∧ b < w.heap.size ∧ ∀ j x, L[j]? = some x → w.cell? ⟨b, off + j, none⟩ = some (.int .i64 x))
theorem Ts.below {w w' : World} {v : Value} {L : List Int} (h : Ts w v L) (q : Below w.heap.size w w') : Ts w' v L := by
  obtain ⟨a, cap, e, h1, h2, h3⟩ := h
  exact ⟨a, cap, e, h1, h2, fun hn => by obtain ⟨b, off, ea, hb, B⟩ := h3 hn; exact ⟨b, off, ea, Nat.lt_of_lt_of_le hb q.size, fun j x hj => (q.cell (p := ⟨b, _, none⟩) hb).trans (B j x hj)⟩⟩
theorem OwnT.ts {w : World} {base : Nat} {v : Value} {L : List Int} (h : OwnT w base v L) : Ts w v L := by
  obtain ⟨h1, h2⟩ := h
  rcases h2 with ⟨rfl, h0⟩ | ⟨g, cap, cur, rfl, hb, hh, hc, hm, hs, ht⟩
  · exact ⟨none, 0, by rw [h0], by omega, by omega, fun hn => by omega⟩
  · refine ⟨_, cap, rfl, hc, by unfold maxLen at hm; omega, fun hn => ⟨g, 0, rfl, (Array.getElem?_eq_some_iff.1 hh).1, fun j x hj => ?_⟩⟩
    have hl : j < L.length := (List.getElem?_eq_some_iff.1 hj).1
    have := ct_at L j x hj
    rw [← ht, List.getElem?_take_of_lt (by omega)] at this
    simp only [Array.getElem?_toList] at this
    simp [World.cell?, hh, this]
theorem appT {w : World} {base : Nat} {va : Value} {la : List Int} (hI : OwnT w base va la) (x : Int) (hb : base ≤ w.heap.size) (hn : (la.length + 1) * 8 ≤ 140737488355328) (ty : TypeId) :
    ∃ v' w', (Builtin.append_ #[35, 35] ty #[va, .slice (some ⟨w.heap.size, 0, none⟩) 1 1]).run Tryz.prog (w.alloc (.cells #[.int .i64 x] 23)) = .ok v' w' ∧ OwnT w' base v' (la ++ [x]) ∧ Below base w w' ∧ w.heap.size ≤ w'.heap.size := by
  obtain ⟨i, hi, hz, hs, hby⟩ := info_parts3L info_time
  obtain ⟨v', w', hr, ho, hg, _, _⟩ := run_append_own_at (P := Tryz.prog) (w.alloc (.cells #[.int .i64 x] 23)) base 35 ty 23 i (.int .i64 0) 1 8 Tryz.underlying35 hi hz hs hby rfl (by decide) va la.length (ct la) (World.ownsRow.alloc hI _) ⟨w.heap.size, 0, none⟩ 1 1 (ct [x]) rfl
    (by intro j u hj; cases j with | zero => (simp [ct] at hj; subst hj; simp [Addr.add, go_sem]) | succ j => simp [ct] at hj) (ct_one _) (by unfold maxLen; omega) (by omega) (by simp; omega)
  have hB : Below base w (w.alloc (.cells #[.int .i64 x] 23)) := (Below.refl base w).alloc hb _
  have hB2 := hB.grown hg (by simp; omega) hI.block
  refine ⟨v', w', hr, ?_, hB2, hB2.size⟩
  unfold OwnT
  rw [ct_app, List.length_append]
  exact ho

end Go.Proofs.YtoecgabdjpgleaaGreatDoor.Lp
