/-
  A byte appended to a slice of the call's own; the contract of sundialref04.pad: bytes padded to blocks.
  Conditions: no more than 2^47 - 4096 bytes.
-/
import Derived.Test.YtenlbjnoiamfiaaDoorHsC
import Derived.Maps.AppendAt
import Derived.Laws.OwnMore
import Derived.OwnWalk
import Derived.Deep.Upon
import Derived.KernelRfl
namespace Go.Proofs.YtenlbjnoiamfiaaDoor.Hs
open Go.RowKit
set_option linter.unusedVariables false
set_option linter.unusedSimpArgs false

/-- an append whose outcome is known. -/
theorem wpList_append_eq {P : Program} {w : World} {ops : Array Oper} {rest : List Oper} {o : Oper} {a : Act} {Q : Exit → Act → World → Prop} (hgd : o.guard = none) (s x : Operand) (t : TypeId)
    (ho : o.op = .call { callee := .builtin .append, args := #[s, x], argTypes := #[t, t] }) (v xv v' : Value) (w' : World) (hs : a.eval s = v) (hx : a.eval x = xv)
    (hr : (Builtin.append_ #[t, t] o.type #[v, xv]).run P w = .ok v' w') (h : wpList P ops Q rest (a.put o.dst v') w') : wpList P ops Q (o :: rest) a w := by
  refine wpList_plain hgd fun K hK => ?_
  unfold Oper.wp execOp
  simp only [ho, resolve, invoke, builtin, Sem.run_bind, Sem.run_pure, Result.andThen_ok, List.map_toArray, List.map_cons, List.map_nil, hs, hx, hr]
  exact hK _ _ h
theorem info_u8 : (Tryd.prog.info? 5).map (fun i => (i.zero, i.size, i.bytes)) = some (some (.int .u8 0), 1, 1) := by kernel_rfl
/-- bytes as cells. -/
def cl (l : List Nat) : List Value := l.map fun (x : Nat) => Value.int .u8 (x : Int)
theorem cl_len (l : List Nat) : (cl l).length = l.length := by simp [cl]
theorem cl_app (l k : List Nat) : cl (l ++ k) = cl l ++ cl k := by simp [cl]
theorem cl_one (l : List Nat) : ∀ u ∈ cl l, u.oneCell' = true := by
  intro u hu
  simp only [cl, List.mem_map] at hu
  obtain ⟨x, _, rfl⟩ := hu
  rfl
/-- v is a slice of the call's own that holds just these bytes. -/
def Own (w : World) (base : Nat) (v : Value) (l : List Nat) : Prop := w.ownsRow base 5 1 v l.length (cl l)
theorem Own.block {w : World} {base : Nat} {v : Value} {l : List Nat} (h : Own w base v l) : ∀ k, v.ownBlock = some k → base ≤ k := by
  intro k hk
  rcases h.2 with ⟨rfl, _⟩ | ⟨g, cap, cur, rfl, hb, _⟩
  · simp [Value.ownBlock] at hk
  · simp [Value.ownBlock] at hk
    omega
theorem Own.form {w : World} {base : Nat} {v : Value} {l : List Nat} (h : Own w base v l) (hl : 0 < l.length) : ∃ g cap, v = .slice (some ⟨g, 0, none⟩) l.length cap ∧ base ≤ g ∧ g < w.heap.size ∧ l.length ≤ cap := by
  rcases h.2 with ⟨_, h0⟩ | ⟨g, cap, cur, hv, hb, hh, hc, _⟩
  · omega
  · exact ⟨g, cap, hv, hb, (Array.getElem?_eq_some_iff.1 hh).1, hc⟩

/-- append of one byte that the statement lays. -/
theorem app1 {w : World} {base : Nat} {v : Value} {l : List Nat} (h : Own w base v l) (x : Nat) (hb : base ≤ w.heap.size) (hn : l.length + 1 ≤ 140737488355328) (ty : TypeId) :
    ∃ v' w', (Builtin.append_ #[22, 22] ty #[v, .slice (some ⟨w.heap.size, 0, none⟩) 1 1]).run Tryd.prog (w.alloc (.cells #[.int .u8 (x : Int)] 5)) = .ok v' w' ∧ Own w' base v' (l ++ [x]) ∧ Below base w w' ∧ w.heap.size ≤ w'.heap.size := by
  obtain ⟨i, hi, hz, hs, hby⟩ := info_parts info_u8
  obtain ⟨v', w', hr, ho, hg, _, _⟩ := run_append_own_at (P := Tryd.prog) (w.alloc (.cells #[.int .u8 (x : Int)] 5)) base 22 ty 5 i (.int .u8 0) 1 1 Tryd.underlying22 hi hz hs hby rfl (by decide) v l.length (cl l) (World.ownsRow.alloc h _) ⟨w.heap.size, 0, none⟩ 1 1 (cl [x]) rfl
    (by intro j u hj; cases j with | zero => (simp [cl] at hj; subst hj; simp [Addr.add, go_sem]) | succ j => simp [cl] at hj) (cl_one _) (by unfold maxLen; omega) (by omega) (by simp; omega)
  have hB : Below base w (w.alloc (.cells #[.int .u8 (x : Int)] 5)) := (Below.refl base w).alloc hb _
  have hB2 := hB.grown hg (by simp; omega) h.block
  refine ⟨v', w', hr, ?_, hB2, hB2.size⟩
  unfold Own
  rw [cl_app, List.length_append]
  exact ho
/-- the first n bytes. -/
def bl (f : Nat → Nat) (n : Nat) : List Nat := (List.range n).map f
theorem bl_len (f : Nat → Nat) (n : Nat) : (bl f n).length = n := by simp [bl]
/-- append of bytes that lie in memory. -/
theorem appB {w : World} {base : Nat} {v : Value} {l : List Nat} (h : Own w base v l) {b off n : Nat} {f : Nat → Nat} (B : Bs w b off n f) (cap : Nat) (hb : base ≤ w.heap.size) (hn : l.length + n ≤ 140737488355328) (ty : TypeId) :
    ∃ v' w', (Builtin.append_ #[22, 22] ty #[v, .slice (some ⟨b, off, none⟩) n cap]).run Tryd.prog w = .ok v' w' ∧ Own w' base v' (l ++ bl f n) ∧ Below base w w' ∧ w.heap.size ≤ w'.heap.size := by
  obtain ⟨i, hi, hz, hs, hby⟩ := info_parts info_u8
  obtain ⟨v', w', hr, ho, hg, _, _⟩ := run_append_own_at (P := Tryd.prog) w base 22 ty 5 i (.int .u8 0) 1 1 Tryd.underlying22 hi hz hs hby rfl (by decide) v l.length (cl l) h ⟨b, off, none⟩ n cap (cl (bl f n)) (by rw [cl_len, bl_len]; omega)
    (by
      intro j u hj
      have hj' : j < n := by have := (List.getElem?_eq_some_iff.1 hj).1; rw [cl_len, bl_len] at this; exact this
      have e := B.2.2 j hj'
      have : u = .int .u8 (f j : Int) := by simpa [cl, bl, hj'] using hj.symm
      rw [this]
      cases j <;> simpa [Addr.add] using e) (cl_one _) (by unfold maxLen; omega) (by omega) hb
  have hB2 := (Below.refl base w).grown hg hb h.block
  refine ⟨v', w', hr, ?_, hB2, hB2.size⟩
  unfold Own
  rw [cl_app, List.length_append, bl_len]
  exact ho
theorem Own.nil (w : World) (base : Nat) : Own w base (.slice none 0 0) [] := World.ownsRow_nil w base _ 1

/-- how many bytes 0 padding takes. -/
def zz (n : Nat) : Nat := (119 - n % 64) % 64
theorem zz_at (n : Nat) : (n + 1 + zz n) % 64 = 56 ∧ zz n ≤ 63 := by unfold zz; omega
theorem zz_ahead {n k : Nat} (h : k < zz n) : (n + 1 + k) % 64 ≠ 56 := by unfold zz at h; omega
/-- the number of bits, byte i. -/
def lbAt (low : Bool) (n i : Nat) : Nat := n * 8 / 2 ^ (if low then 8 * i else 56 - 8 * i) % 256
def lb (low : Bool) (n : Nat) (k : Nat) : List Nat := (List.range k).map (lbAt low n)
theorem lb_succ (low : Bool) (n k : Nat) : lb low n (k + 1) = lb low n k ++ [lbAt low n k] := by simp [lb, List.range_succ]
theorem lb_len (low : Bool) (n k : Nat) : (lb low n k).length = k := by simp [lb]
/-- padded. -/
def pd (low : Bool) (f : Nat → Nat) (n : Nat) : List Nat := bl f n ++ [128] ++ List.replicate (zz n) 0 ++ lb low n 8
theorem pd_len (low : Bool) (f : Nat → Nat) (n : Nat) : (pd low f n).length = n + 1 + zz n + 8 := by simp [pd, bl_len, lb_len]; omega
theorem plen (f : Nat → Nat) (n k : Nat) : (bl f n ++ [128] ++ List.replicate k 0).length = n + 1 + k := by simp only [List.length_append, bl_len, List.length_replicate, List.length_cons, List.length_nil]
def sl : Value → Nat
  | .slice _ l _ => l
  | _ => 0
theorem bstepB {B : Nat} {a b c : World} (h : Below B a b) (k : Below B b c) : Below B a c := h.trans k
end Go.Proofs.YtenlbjnoiamfiaaDoor.Hs
