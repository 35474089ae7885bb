/-
  Bytes in memory, in general: a slice of the call's own, appends, strings of bytes, bytes that come in.
  Conditions: none.
-/
import Derived.Test.YtoecgabdjpgleaaGreatDoorProg
import Derived.WalkKit
import Derived.WalkLawsBesides
import Derived.Lib.Hide
import Derived.BigQuiet
import Derived.Maps.AppendAt
import Derived.Laws.OwnMore
import Derived.OwnWalk
import Derived.Deep.Upon
import Derived.KernelRfl
import Derived.Laws.IdiomStrings
import Derived.Laws.MakeOwn
import Derived.Deep.MidRow
import Derived.BigRegion
import Derived.Deep.RegionHeld3
import Derived.Deep.RegionLaw
import Derived.ProofKit
import Derived.OpenShut
import Derived.Lib.SmallJoins
import Derived.SizedLaws
namespace Go.Proofs.YtoecgabdjpgleaaGreatDoor.By
open Go.ChangeShapes Go.WideShapes Go.ChangeAt Go.RowKit Go.Joins
set_option linter.unusedVariables false
set_option linter.unusedSimpArgs false

/-- n bytes begin at b, off: byte i is f i. -/
def Bs (w : World) (b off n : Nat) (f : Nat → Nat) : Prop :=
  b < w.heap.size ∧ (∀ i, f i < 256) ∧ ∀ i, i < n → w.cell? ⟨b, off + i, none⟩ = some (.int .u8 (f i))
theorem Bs.below {w w' : World} {b off n : Nat} {f : Nat → Nat} (h : Bs w b off n f) (k : Below w.heap.size w w') : Bs w' b off n f :=
  ⟨Nat.lt_of_lt_of_le h.1 k.size, h.2.1, fun i hi => (k.cell (p := ⟨b, off + i, none⟩) h.1).trans (h.2.2 i hi)⟩
/-- an append whose outcome is known. -/
theorem wpList_append_eq {P : Program} {w : World} {ops : Array Oper} {rest : List Oper} {o : Oper} {a : Act} {Q : Exit → Act → World → Prop} (hgd : o.guard = none) (s x : Operand) (t : TypeId)
    (ho : o.op = .call { callee := .builtin .append, args := #[s, x], argTypes := #[t, t] }) (v xv v' : Value) (w' : World) (hs : a.eval s = v) (hx : a.eval x = xv)
    (hr : (Builtin.append_ #[t, t] o.type #[v, xv]).run P w = .ok v' w') (h : wpList P ops Q rest (a.put o.dst v') w') : wpList P ops Q (o :: rest) a w := by
  refine wpList_plain hgd fun K hK => ?_
  unfold Oper.wp execOp
  simp only [ho, resolve, invoke, builtin, Sem.run_bind, Sem.run_pure, Result.andThen_ok, List.map_toArray, List.map_cons, List.map_nil, hs, hx, hr]
  exact hK _ _ h
theorem info_u8 : (Tryz.prog.info? 5).map (fun i => (i.zero, i.size, i.bytes)) = some (some (.int .u8 0), 1, 1) := by kernel_rfl
/-- bytes as cells. -/
def cl (l : List Nat) : List Value := l.map fun (x : Nat) => Value.int .u8 (x : Int)
theorem cl_len (l : List Nat) : (cl l).length = l.length := by simp [cl]
theorem cl_app (l k : List Nat) : cl (l ++ k) = cl l ++ cl k := by simp [cl]
theorem cl_one (l : List Nat) : ∀ u ∈ cl l, u.oneCell' = true := by
  intro u hu
  simp only [cl, List.mem_map] at hu
  obtain ⟨x, _, rfl⟩ := hu
  rfl
/-- v is a slice of the call's own that holds just these bytes. -/
def Own (w : World) (base : Nat) (v : Value) (l : List Nat) : Prop := w.ownsRow base 5 1 v l.length (cl l)
theorem Own.block {w : World} {base : Nat} {v : Value} {l : List Nat} (h : Own w base v l) : ∀ k, v.ownBlock = some k → base ≤ k := by
  intro k hk
  rcases h.2 with ⟨rfl, _⟩ | ⟨g, cap, cur, rfl, hb, _⟩
  · simp [Value.ownBlock] at hk
  · simp [Value.ownBlock] at hk
    omega
theorem Own.form {w : World} {base : Nat} {v : Value} {l : List Nat} (h : Own w base v l) (hl : 0 < l.length) : ∃ g cap, v = .slice (some ⟨g, 0, none⟩) l.length cap ∧ base ≤ g ∧ g < w.heap.size ∧ l.length ≤ cap := by
  rcases h.2 with ⟨_, h0⟩ | ⟨g, cap, cur, hv, hb, hh, hc, _⟩
  · omega
  · exact ⟨g, cap, hv, hb, (Array.getElem?_eq_some_iff.1 hh).1, hc⟩
/-- append of one byte that the statement lays. -/
theorem app1 {w : World} {base : Nat} {v : Value} {l : List Nat} (h : Own w base v l) (x : Nat) (hb : base ≤ w.heap.size) (hn : l.length + 1 ≤ 140737488355328) (ty : TypeId) :
    ∃ v' w', (Builtin.append_ #[31, 31] ty #[v, .slice (some ⟨w.heap.size, 0, none⟩) 1 1]).run Tryz.prog (w.alloc (.cells #[.int .u8 (x : Int)] 5)) = .ok v' w' ∧ Own w' base v' (l ++ [x]) ∧ Below base w w' ∧ w.heap.size ≤ w'.heap.size := by
  obtain ⟨i, hi, hz, hs, hby⟩ := info_parts info_u8
  obtain ⟨v', w', hr, ho, hg, _, _⟩ := run_append_own_at (P := Tryz.prog) (w.alloc (.cells #[.int .u8 (x : Int)] 5)) base 31 ty 5 i (.int .u8 0) 1 1 Tryz.underlying31 hi hz hs hby rfl (by decide) v l.length (cl l) (World.ownsRow.alloc h _) ⟨w.heap.size, 0, none⟩ 1 1 (cl [x]) rfl
    (by intro j u hj; cases j with | zero => (simp [cl] at hj; subst hj; simp [Addr.add, go_sem]) | succ j => simp [cl] at hj) (cl_one _) (by unfold maxLen; omega) (by omega) (by simp; omega)
  have hB : Below base w (w.alloc (.cells #[.int .u8 (x : Int)] 5)) := (Below.refl base w).alloc hb _
  have hB2 := hB.grown hg (by simp; omega) h.block
  refine ⟨v', w', hr, ?_, hB2, hB2.size⟩
  unfold Own
  rw [cl_app, List.length_append]
  exact ho
/-- the first n bytes. -/
def bl (f : Nat → Nat) (n : Nat) : List Nat := (List.range n).map f
theorem bl_len (f : Nat → Nat) (n : Nat) : (bl f n).length = n := by simp [bl]
/-- append of bytes that lie in memory. -/
theorem appB {w : World} {base : Nat} {v : Value} {l : List Nat} (h : Own w base v l) {b off n : Nat} {f : Nat → Nat} (B : Bs w b off n f) (cap : Nat) (hb : base ≤ w.heap.size) (hn : l.length + n ≤ 140737488355328) (ty : TypeId) :
    ∃ v' w', (Builtin.append_ #[31, 31] ty #[v, .slice (some ⟨b, off, none⟩) n cap]).run Tryz.prog w = .ok v' w' ∧ Own w' base v' (l ++ bl f n) ∧ Below base w w' ∧ w.heap.size ≤ w'.heap.size := by
  obtain ⟨i, hi, hz, hs, hby⟩ := info_parts info_u8
  obtain ⟨v', w', hr, ho, hg, _, _⟩ := run_append_own_at (P := Tryz.prog) w base 31 ty 5 i (.int .u8 0) 1 1 Tryz.underlying31 hi hz hs hby rfl (by decide) v l.length (cl l) h ⟨b, off, none⟩ n cap (cl (bl f n)) (by rw [cl_len, bl_len]; omega)
    (by
      intro j u hj
      have hj' : j < n := by have := (List.getElem?_eq_some_iff.1 hj).1; rw [cl_len, bl_len] at this; exact this
      have e := B.2.2 j hj'
      have : u = .int .u8 (f j : Int) := by simpa [cl, bl, hj'] using hj.symm
      rw [this]
      cases j <;> simpa [Addr.add] using e) (cl_one _) (by unfold maxLen; omega) (by omega) hb
  have hB2 := (Below.refl base w).grown hg hb h.block
  refine ⟨v', w', hr, ?_, hB2, hB2.size⟩
  unfold Own
  rw [cl_app, List.length_append, bl_len]
  exact ho
theorem Own.nil (w : World) (base : Nat) : Own w base (.slice none 0 0) [] := World.ownsRow_nil w base _ 1
def sl : Value → Nat
  | .slice _ l _ => l
  | _ => 0
theorem bstepB {B : Nat} {a b c : World} (h : Below B a b) (k : Below B b c) : Below B a c := h.trans k
/-- a slice of the call's own as bytes in memory. -/
theorem Own.bs {w : World} {base : Nat} {v : Value} {l : List Nat} (h : Own w base v l) (hl : 0 < l.length) (h8 : ∀ x ∈ l, x < 256) : ∃ g cap, v = .slice (some ⟨g, 0, none⟩) l.length cap ∧ base ≤ g ∧ Bs w g 0 l.length (fun i => l.getD i 0) := by
  rcases h.2 with ⟨_, h0⟩ | ⟨g, cap, cur, hv, hb, hh, hc, _, hcs, ht⟩
  · omega
  · refine ⟨g, cap, hv, hb, (Array.getElem?_eq_some_iff.1 hh).1, fun i => ?_, fun i hi => ?_⟩
    · show l.getD i 0 < 256
      rw [List.getD_eq_getElem?_getD]
      cases e : l[i]? with
      | none => simp
      | some x => simpa using h8 x (List.mem_of_getElem? e)
    · have e : (cl l)[i]? = some (.int .u8 ((l.getD i 0 : Nat) : Int)) := by simp [cl, List.getD_eq_getElem?_getD, hi]
      rw [← ht, Nat.mul_one, List.getElem?_take, if_pos hi] at e
      simp only [World.cell?, hh, Nat.zero_add]
      simpa using e
theorem brefl (w : World) : Below w.heap.size w w := Below.refl _ _
theorem balloc {a b : World} (h : Below a.heap.size a b) (o : Obj) : Below a.heap.size a (b.alloc o) := h.alloc h.size o
theorem bstep {a b c : World} (h : Below a.heap.size a b) (k : Below b.heap.size b c) : Below a.heap.size a c := h.trans (k.mono h.size)
theorem bdrew {a b : World} (h : Below a.heap.size a b) (n : Nat) : Below a.heap.size a (b.drewN n) := h.trans ⟨rfl, rfl, rfl, Nat.le_refl _, fun _ _ => rfl⟩
theorem Own.le {w : World} {base base' : Nat} {v : Value} {l : List Nat} (h : Own w base v l) (hb : base' ≤ base) : Own w base' v l :=
  ⟨h.1, h.2.elim Or.inl (fun ⟨g, cap, cur, hv, hg, r⟩ => Or.inr ⟨g, cap, cur, hv, Nat.le_trans hb hg, r⟩)⟩
theorem Bs.belowB {B : Nat} {w w' : World} {b off n : Nat} {f : Nat → Nat} (h : Bs w b off n f) (hb : b < B) (k : Below B w w') : Bs w' b off n f :=
  ⟨Nat.lt_of_lt_of_le h.1 k.size, h.2.1, fun i hi => (k.cell (p := ⟨b, off + i, none⟩) hb).trans (h.2.2 i hi)⟩
/-- bytes as a string. -/
def bs8 (l : List Nat) : ByteArray := ⟨(l.map UInt8.ofNat).toArray⟩
theorem conv_bs {w : World} {b off n : Nat} {f : Nat → Nat} (B : Bs w b off n f) (cap : Nat) :
    (convert 31 9 (.slice (some ⟨b, off, none⟩) n cap)).run Tryz.prog w = .ok (.string (bs8 (bl f n))) w := by
  have h := run_convert_bytes_back (P := Tryz.prog) w 31 9 5 ⟨b, off, none⟩ cap ((bl f n).map UInt8.ofNat) Tryz.underlying31 Tryz.underlying5 Tryz.underlying9 (by
    intro j hj
    have hj' : j < n := by simpa [bl_len] using hj
    have e := B.2.2 j hj'
    have g := B.2.1 j
    have x : ((UInt8.ofNat (f j)).toNat : Int) = (f j : Int) := by rw [UInt8.toNat_ofNat']; omega
    have y : ((bl f n).map UInt8.ofNat)[j] = UInt8.ofNat (f j) := by simp [bl]
    rw [y, x]
    cases j <;> simpa [Addr.add] using e)
  rw [List.length_map, bl_len] at h
  exact h
theorem bs8_inj {l k : List Nat} (hl : ∀ x ∈ l, x < 256) (hk : ∀ x ∈ k, x < 256) (h : bs8 l = bs8 k) : l = k := by
  have h2 : l.map UInt8.ofNat = k.map UInt8.ofNat := by
    have := congrArg (fun b : ByteArray => b.data.toList) h
    simpa [bs8] using this
  have h3 := congrArg (List.map UInt8.toNat) h2
  simp only [List.map_map] at h3
  have e : ∀ l : List Nat, (∀ x ∈ l, x < 256) → l.map (UInt8.toNat ∘ UInt8.ofNat) = l := fun l hl => by
    conv => rhs; rw [← List.map_id l]
    apply List.map_congr_left
    intro x hx
    have := hl x hx
    simp only [Function.comp, id]
    rw [UInt8.toNat_ofNat']
    omega
  rwa [e l hl, e k hk] at h3
/-- append of bytes that the statement lays. -/
theorem appL {w : World} {base : Nat} {v : Value} {l : List Nat} (h : Own w base v l) (k : List Nat) (hk : 0 < k.length) (hb : base ≤ w.heap.size) (hn : l.length + k.length ≤ 140737488355328) (ty : TypeId) :
    ∃ v' w', (Builtin.append_ #[31, 31] ty #[v, .slice (some ⟨w.heap.size, 0, none⟩) k.length k.length]).run Tryz.prog (w.alloc (.cells (cl k).toArray 5)) = .ok v' w' ∧ Own w' base v' (l ++ k) ∧ Below base w w' ∧ w.heap.size ≤ w'.heap.size := by
  obtain ⟨i, hi, hz, hs, hby⟩ := info_parts info_u8
  obtain ⟨v', w', hr, ho, hg, _, _⟩ := run_append_own_at (P := Tryz.prog) (w.alloc (.cells (cl k).toArray 5)) base 31 ty 5 i (.int .u8 0) 1 1 Tryz.underlying31 hi hz hs hby rfl (by decide) v l.length (cl l) (World.ownsRow.alloc h _) ⟨w.heap.size, 0, none⟩ k.length k.length (cl k) (by rw [cl_len]; omega)
    (by
      intro j u hj
      have e : (⟨w.heap.size, 0, none⟩ : Addr).add j = ⟨w.heap.size, j, none⟩ := by unfold Addr.add; split <;> simp_all
      rw [e, World.cell?_alloc_mark w _ _ (0, 0) j]
      simpa using hj) (cl_one _) (by unfold maxLen; omega) (by omega) (by simp; omega)
  have hB : Below base w (w.alloc (.cells (cl k).toArray 5)) := (Below.refl base w).alloc hb _
  have hB2 := hB.grown hg (by simp; omega) h.block
  refine ⟨v', w', hr, ?_, hB2, hB2.size⟩
  unfold Own
  rw [cl_app, List.length_append]
  exact ho
theorem bdrew1 (B : Nat) (w : World) : Below B w w.drew := ⟨rfl, rfl, rfl, Nat.le_refl _, fun _ _ => rfl⟩
/-- a slice's cells, seen from the block's beginning. -/
theorem Bs.at {w : World} {b off n : Nat} {f : Nat → Nat} (h : Bs w b off n f) {i : Nat} (hi : i < n) : w.cell? ⟨b, off + i, none⟩ = some (.int .u8 (f i)) := h.2.2 i hi
theorem wrap_in {a : Int} (h : -9223372036854775808 ≤ a) (h' : a ≤ 9223372036854775807) : IntKind.i64.wrap a = a := by
  simp only [IntKind.wrap, IntKind.bits, IntKind.signed]
  simp
  omega
theorem Bs.part {w : World} {b off n : Nat} {f : Nat → Nat} (h : Bs w b off n f) (o m : Nat) (hm : o + m ≤ n) : Bs w b (off + o) m (fun i => f (o + i)) :=
  ⟨h.1, fun i => h.2.1 _, fun i hi => by rw [Nat.add_assoc]; exact h.2.2 (o + i) (by omega)⟩
theorem bl_add (f : Nat → Nat) (a c : Nat) : bl f (a + c) = bl f a ++ bl (fun i => f (a + i)) c := by
  unfold bl
  rw [List.range_add, List.map_append, List.map_map]
  rfl
theorem bl_get {f : Nat → Nat} {n i : Nat} (h : i < n) (l : List Nat) : (bl f n ++ l).getD i 0 = f i := by
  rw [List.getD_eq_getElem?_getD, List.getElem?_append_left (by rw [bl_len]; exact h)]
  simp [bl, h]
theorem app_get (f : Nat → Nat) (n i : Nat) (l : List Nat) : (bl f n ++ l).getD (n + i) 0 = l.getD i 0 := by
  rw [List.getD_eq_getElem?_getD, List.getElem?_append_right (by rw [bl_len]; omega), bl_len, List.getD_eq_getElem?_getD]
  congr 2
  omega
/-- a slice of the call's own, with its bounds. -/
theorem Own.bsC {w : World} {base : Nat} {v : Value} {l : List Nat} (h : Own w base v l) (hl : 0 < l.length) (h8 : ∀ x ∈ l, x < 256) : ∃ g cap, v = .slice (some ⟨g, 0, none⟩) l.length cap ∧ base ≤ g ∧ Bs w g 0 l.length (fun i => l.getD i 0) ∧ l.length ≤ cap ∧ cap ≤ 9223372036854775807 := by
  obtain ⟨g, cap, hv, hb, B⟩ := h.bs hl h8
  refine ⟨g, cap, hv, hb, B, ?_⟩
  rcases h.2 with ⟨_, h0⟩ | ⟨g', cap', cur, hv', _, _, hc, hm, _⟩
  · omega
  · rw [hv] at hv'
    simp only [Value.slice.injEq] at hv'
    obtain ⟨_, _, rfl⟩ := hv'
    unfold maxLen at hm
    exact ⟨hc, by omega⟩
theorem mk_run (c : Nat) (hc : c ≤ 281474976710656) (w : World) : (Instr.makeSlice 31 (.int .i64 0) (.int .i64 (c : Int))).run Tryz.prog w = .ok (.slice (some ⟨w.heap.size, 0, none⟩) 0 c) (w.alloc (.cells (madeCells #[.int .u8 0] c) 5)) := by
  obtain ⟨i, hi, hz, hs, hby⟩ := info_parts info_u8
  have h := run_make (P := Tryz.prog) w 31 5 i (.int .u8 0) Tryz.underlying31 hi hz .i64 .i64 0 c (Int.le_refl _) (by omega) (by rw [hby]; omega) (by omega)
  rw [hs, Nat.mul_one] at h
  exact h
theorem mk_own' (w : World) (base : Nat) (hb : base ≤ w.heap.size) (c : Nat) (hc : c ≤ 281474976710656) : Own (w.alloc (.cells (madeCells #[.int .u8 0] c) 5)) base (.slice (some ⟨w.heap.size, 0, none⟩) 0 c) [] :=
  ⟨rfl, .inr ⟨w.heap.size, c, _, rfl, hb, heap_alloc_new w _, Nat.zero_le _, by unfold maxLen; omega, by rw [size_madeCells, Nat.mul_one], by simp [cl]⟩⟩
/-- an append whose outcome is known, in a region that draws its order. -/
theorem step_append_eq {P : Program} {w : World} {ops : Array Oper} {o : Oper} {a : Act} {K : Act → World → Prop} {Q : Exit → Act → World → Prop} {E : Prop} (hgd : o.guard = none) (s x : Operand) (t : TypeId)
    (ho : o.op = .call { callee := .builtin .append, args := #[s, x], argTypes := #[t, t] }) (v xv v' : Value) (w' : World) (hs : a.eval s = v) (hx : a.eval x = xv)
    (hr : (Builtin.append_ #[t, t] o.type #[v, xv]).run P w = .ok v' w') (h : K (a.put o.dst v') w') :
    if Region.wanted o (yielded ops a.tmps) = true then Oper.wp P o a w K Q else E := by
  have hw : Region.wanted o (yielded ops a.tmps) = true := by simp [Region.wanted, hgd]
  rw [if_pos hw]
  unfold Oper.wp execOp
  simp only [ho, resolve, invoke, builtin, Sem.run_bind, Sem.run_pure, Result.andThen_ok, List.map_toArray, List.map_cons, List.map_nil, hs, hx, hr]
  exact h
/-- append of bytes that the statement lays, where there is room. -/
theorem appR {w : World} {base g cap : Nat} {l : List Nat} (h : Own w base (.slice (some ⟨g, 0, none⟩) l.length cap) l) (k : List Nat) (hg : g < w.heap.size) (hk : l.length + k.length ≤ cap) (hb : base ≤ g) (ty : TypeId) :
    ∃ w', (Builtin.append_ #[31, 31] ty #[.slice (some ⟨g, 0, none⟩) l.length cap, .slice (some ⟨w.heap.size, 0, none⟩) k.length k.length]).run Tryz.prog (w.alloc (.cells (cl k).toArray 5)) = .ok (.slice (some ⟨g, 0, none⟩) (l.length + k.length) cap) w' ∧ Own w' base (.slice (some ⟨g, 0, none⟩) (l ++ k).length cap) (l ++ k) ∧ Below base w w' := by
  obtain ⟨i, hi, hz, hs, hby⟩ := info_parts info_u8
  obtain ⟨w', hr, ho, hgr⟩ := run_append_fits (P := Tryz.prog) (w.alloc (.cells (cl k).toArray 5)) base 31 ty 5 i 1 Tryz.underlying31 hi hs g l.length cap (cl l) (World.ownsRow.alloc h _) ⟨w.heap.size, 0, none⟩ k.length k.length (cl k) (by rw [cl_len]; omega)
    (by
      intro j u hj
      have e : (⟨w.heap.size, 0, none⟩ : Addr).add j = ⟨w.heap.size, j, none⟩ := by unfold Addr.add; split <;> simp_all
      rw [e, World.cell?_alloc_mark w _ _ (0, 0) j]
      simpa using hj) (cl_one _) hk
  have hB : Below base w (w.alloc (.cells (cl k).toArray 5)) := (Below.refl base w).alloc (by omega) _
  refine ⟨w', hr, ?_, hB.grown hgr (by simp; omega) (fun j hj => by cases hj; exact hb)⟩
  unfold Own
  rw [cl_app, List.length_append]
  exact ho
theorem Own.bs0 {w : World} {base g m cap : Nat} {l : List Nat} (h : Own w base (.slice (some ⟨g, 0, none⟩) m cap) l) (h8 : ∀ x ∈ l, x < 256) : Bs w g 0 l.length (fun i => l.getD i 0) := by
  rcases h.2 with ⟨h0, _⟩ | ⟨g', cap', cur, hv, hb, hh, hc, _, hcs, ht⟩
  · cases h0
  · simp only [Value.slice.injEq, Option.some.injEq, Addr.mk.injEq, and_true, true_and] at hv
    obtain ⟨rfl, _, rfl⟩ := hv
    refine ⟨(Array.getElem?_eq_some_iff.1 hh).1, fun i => ?_, fun i hi => ?_⟩
    · show l.getD i 0 < 256
      rw [List.getD_eq_getElem?_getD]
      cases e : l[i]? with
      | none => simp
      | some x => simpa using h8 x (List.mem_of_getElem? e)
    · have e : (cl l)[i]? = some (.int .u8 ((l.getD i 0 : Nat) : Int)) := by simp [cl, List.getD_eq_getElem?_getD, hi]
      rw [← ht, Nat.mul_one, List.getElem?_take, if_pos hi] at e
      simp only [World.cell?, hh, Nat.zero_add]
      simpa using e
theorem bl_getD (l : List Nat) : bl (fun i => l.getD i 0) l.length = l := by
  apply List.ext_getElem?
  intro i
  by_cases h : i < l.length
  · simp [bl, h]
  · rw [List.getElem?_eq_none (by rw [bl_len]; omega), List.getElem?_eq_none (by omega)]
/-- an append whose outcome is known, behind a guard that holds. -/
theorem append_want {P : Program} {w : World} {ops : Array Oper} {rest : List Oper} {o : Oper} {a : Act} {Q : Exit → Act → World → Prop} (hw : Region.wanted o (yielded ops a.tmps) = true) (s x : Operand) (t : TypeId)
    (ho : o.op = .call { callee := .builtin .append, args := #[s, x], argTypes := #[t, t] }) (v xv v' : Value) (w' : World) (hs : a.eval s = v) (hx : a.eval x = xv)
    (hr : (Builtin.append_ #[t, t] o.type #[v, xv]).run P w = .ok v' w') (h : wpList P ops Q rest (a.put o.dst v') w') : wpList P ops Q (o :: rest) a w := by
  refine BigFrame.wpList_want hw fun K hK => ?_
  unfold Oper.wp execOp
  simp only [ho, resolve, invoke, builtin, Sem.run_bind, Sem.run_pure, Result.andThen_ok, List.map_toArray, List.map_cons, List.map_nil, hs, hx, hr]
  exact hK _ _ h
theorem bs8_size (l : List Nat) : (bs8 l).size = l.length := by simp [bs8, ByteArray.size]
theorem idx_bs8 (l : List Nat) (j x : Nat) (hx : l[j]? = some x) (hb : x < 256) (w : World) : (Instr.index 9 (.string (bs8 l)) (.int .i64 (j : Int))).run Tryz.prog w = .ok (.int .u8 (x : Int)) w := by
  have hj : j < l.length := (List.getElem?_eq_some_iff.1 hx).1
  have hs := bs8_size l
  rw [run_index_string w _ _ _ _ Tryz.underlying9]
  rw [dif_pos (by rw [hs]; omega)]
  have e : (bs8 l)[(j : Int).toNat]'(by rw [hs]; omega) = UInt8.ofNat x := by
    have := (List.getElem?_eq_some_iff.1 hx).2
    simp only [Int.toNat_natCast]
    show (bs8 l).data[j]'_ = _
    simp [bs8, this]
  rw [e]
  simp
  omega
theorem bl_succ (g : Nat → Nat) (n : Nat) : bl g (n + 1) = bl g n ++ [g n] := by simp [bl, List.range_succ]
theorem bl_congr {g g' : Nat → Nat} {n : Nat} (h : ∀ i, i < n → g i = g' i) : bl g n = bl g' n := by
  unfold bl
  apply List.map_congr_left
  intro i hi
  exact h i (by simpa using hi)
theorem bdr {a b : World} (h : Below a.heap.size a b) : Below a.heap.size a b.drew := h.drew
/-- the value v is a slice of n bytes, byte i is f i. -/
def Arg (w : World) (v : Value) (n : Nat) (f : Nat → Nat) : Prop :=
  ∃ a cap, v = .slice a n cap ∧ n ≤ cap ∧ cap ≤ 140737488351232 ∧ (∀ i, f i < 256) ∧ (0 < n → ∃ b off, a = some ⟨b, off, none⟩ ∧ Bs w b off n f) ∧ (a = none → cap = 0)
theorem Arg.below {w w' : World} {v : Value} {n : Nat} {f : Nat → Nat} (h : Arg w v n f) (k : Below w.heap.size w w') : Arg w' v n f := by
  obtain ⟨a, cap, e, h1, h2, h3, h4, h5⟩ := h
  exact ⟨a, cap, e, h1, h2, h3, fun hn => by obtain ⟨b, off, ea, B⟩ := h4 hn; exact ⟨b, off, ea, B.below k⟩, h5⟩
theorem cells5 : Tryz.prog.cellsOf 5 = 1 := by kernel_rfl
theorem bytes5 : Tryz.prog.bytesOf 5 = 1 := by kernel_rfl
set_option maxRecDepth 100000 in
theorem open_bytes {H : Type} {enc : TypeId × Value → H} {W : World} {base : Nat} {v : Value} {d : DataW H} {p : List MemPlace}
    (hv : Value.okWide Tryz.prog W .any base 31 v) (h : DataW.Trod enc Tryz.prog W 0 (fun _ => true) true 31 v d p)
    (hw : ∀ es sp, d = .slice es sp → (es.length + sp.length) * Tryz.prog.bytesOf 5 ≤ reachBytes) : ∃ n f, Arg W v n f := by
  obtain ⟨a0, len, cap, rfl⟩ := okWide_slice Tryz.underlying31 hv
  obtain ⟨fuel, hf⟩ := h
  rcases open_ints Tryz.underlying31 Tryz.underlying5 cells5 hf with ⟨hcs, hx⟩ | ⟨a, len', cap', zs, hcs, _, hl, hm, hz, hx, hcell, hwz⟩
  · simp [Value.cells] at hcs
    obtain ⟨rfl, rfl, rfl⟩ := hcs
    exact ⟨0, fun _ => 0, none, 0, rfl, Nat.le_refl _, by omega, fun _ => by simp, fun h => absurd h (by omega), fun _ => rfl⟩
  · simp [Value.cells] at hcs
    obtain ⟨rfl, rfl, rfl⟩ := hcs
    simp only [if_true] at hz
    simp only [Prod.mk.injEq] at hx
    have hb := hw _ _ hx.1
    rw [bytes5, Nat.mul_one] at hb
    have hlen : (lits .u8 (zs.take len) : List (DataW H)).length + (lits .u8 (zs.drop len) : List (DataW H)).length = cap := by simp [lits]; omega
    rw [hlen] at hb
    unfold reachBytes at hb
    have hbyte : ∀ i, 0 ≤ zs.getD i 0 ∧ zs.getD i 0 < 256 := by
      intro i
      rw [List.getD_eq_getElem?_getD]
      cases e : zs[i]? with
      | none => simp
      | some x =>
        have hx := hwz x (List.mem_of_getElem? e)
        simp [Lit.wf, IntKind.min, IntKind.max, IntKind.bits, IntKind.signed] at hx
        simp
        omega
    have hfb : ∀ i, (zs.getD i 0).toNat < 256 := fun i => by have := hbyte i; omega
    refine ⟨len, fun i => (zs.getD i 0).toNat, some a, cap, rfl, hl, by omega, hfb, fun hn => ?_, fun h => by cases h⟩
    have c0 := hcell 0 (by omega)
    obtain ⟨b, off, s⟩ := a
    have sp : s = none := by simpa [Addr.add] using World.cell?_spot c0
    subst sp
    refine ⟨b, off, rfl, World.block_lt_of_cell? W _ (show W.cell? ⟨b, off, none⟩ = some _ by simpa [Addr.add] using c0), hfb, fun i hi => ?_⟩
    have e : (⟨b, off, none⟩ : Addr).add i = ⟨b, off + i, none⟩ := by unfold Addr.add; split <;> simp_all
    have c := hcell i (by omega)
    rw [e] at c
    rw [c]
    show _ = some (Value.int .u8 (((zs.getD i 0).toNat : Nat) : Int))
    rw [Int.toNat_of_nonneg (hbyte i).1]
/-- append of them to a slice of the call's own. -/
theorem Arg.app {w0 w : World} {va : Value} {n : Nat} {f : Nat → Nat} (A : Arg w0 va n f) (k : Below w0.heap.size w0 w) {base : Nat} {v : Value} {l : List Nat} (h : Own w base v l) (hb : base ≤ w.heap.size) (hn : l.length + n ≤ 140737488355328) (ty : TypeId) :
    ∃ v' w', (Builtin.append_ #[31, 31] ty #[v, va]).run Tryz.prog w = .ok v' w' ∧ Own w' base v' (l ++ bl f n) ∧ Below base w w' ∧ w.heap.size ≤ w'.heap.size ∧ (v ≠ .slice none 0 0 → v' ≠ .slice none 0 0) := by
  obtain ⟨i, hi, hz, hs, hby⟩ := info_parts info_u8
  obtain ⟨a, cap, rfl, h1, h2, h3, h4, h5⟩ := A
  cases a with
  | none =>
    obtain rfl := h5 rfl
    obtain rfl : n = 0 := by omega
    exact ⟨v, w, run_append_owned_none (P := Tryz.prog) w base 31 ty 5 i 1 Tryz.underlying31 hi v l.length (cl l) h, by simpa [bl] using h, Below.refl _ _, Nat.le_refl _, id⟩
  | some ad =>
    obtain ⟨v', w', hr, ho, hg, hnil, _⟩ := run_append_own_at (P := Tryz.prog) w base 31 ty 5 i (.int .u8 0) 1 1 Tryz.underlying31 hi hz hs hby rfl (by decide) v l.length (cl l) h ad n cap (cl (bl f n)) (by rw [cl_len, bl_len]; omega)
      (by
        intro j u hj
        have hj' : j < n := by have := (List.getElem?_eq_some_iff.1 hj).1; rw [cl_len, bl_len] at this; exact this
        obtain ⟨b, off, ea, B⟩ := h4 (by omega)
        cases ea
        have e := (B.below k).2.2 j hj'
        have : u = .int .u8 (f j : Int) := by simpa [cl, bl, hj'] using hj.symm
        rw [this]
        cases j <;> simpa [Addr.add] using e) (cl_one _) (by unfold maxLen; omega) (by omega) hb
    have hB2 := (Below.refl base w).grown hg hb h.block
    refine ⟨v', w', hr, ?_, hB2, hB2.size, fun hv hv' => hv (hnil.1 hv').1⟩
    unfold Own
    rw [cl_app, List.length_append, bl_len]
    exact ho
theorem conv_zero (w : World) (p : Option Addr) (c : Nat) : (convert 31 9 (.slice p 0 c)).run Tryz.prog w = .ok (.string (bs8 [])) w := by
  rw [run_convert_bytes_string w 31 9 5 _ 0 c Tryz.underlying31 Tryz.underlying5 Tryz.underlying9]
  cases p <;> simp [Conv.bytesToString, loadCells] <;> rfl
theorem Arg.conv {w0 w : World} {va : Value} {n : Nat} {f : Nat → Nat} (A : Arg w0 va n f) (k : Below w0.heap.size w0 w) : (convert 31 9 va).run Tryz.prog w = .ok (.string (bs8 (bl f n))) w := by
  obtain ⟨a, cap, rfl, h1, h2, h3, h4, h5⟩ := A
  by_cases hn : 0 < n
  · obtain ⟨b, off, rfl, B⟩ := h4 hn
    exact conv_bs (B.below k) cap
  · obtain rfl : n = 0 := by omega
    exact conv_zero w a cap
/-- a slice of the call's own that is not nil. -/
theorem Own.bsF {w : World} {base : Nat} {v : Value} {f : Nat → Nat} {n : Nat} (h : Own w base v (bl f n)) (hv : v ≠ .slice none 0 0) (hf : ∀ i, f i < 256) : ∃ g cap, v = .slice (some ⟨g, 0, none⟩) n cap ∧ base ≤ g ∧ Bs w g 0 n f ∧ n ≤ cap ∧ cap ≤ 9223372036854775807 := by
  rcases h.2 with ⟨h0, _⟩ | ⟨g, cap, cur, e, hb, hh, hc, hm, hcs, ht⟩
  · exact absurd h0 hv
  · rw [bl_len] at e hc ht
    refine ⟨g, cap, e, hb, ⟨(Array.getElem?_eq_some_iff.1 hh).1, hf, fun i hi => ?_⟩, hc, by unfold maxLen at hm; omega⟩
    have e2 : (cl (bl f n))[i]? = some (.int .u8 ((f i : Nat) : Int)) := by simp [cl, bl, hi]
    rw [← ht, Nat.mul_one, List.getElem?_take, if_pos hi] at e2
    simp only [World.cell?, hh, Nat.zero_add]
    simpa using e2
/-- a digest as a string. -/
theorem Own.conv {w w' : World} {base : Nat} {v : Value} {l : List Nat} (h : Own w base v l) (hl : 0 < l.length) (h8 : ∀ x ∈ l, x < 256) (k : Below w.heap.size w w') : (convert 31 9 v).run Tryz.prog w' = .ok (.string (bs8 l)) w' := by
  obtain ⟨g, cap, rfl, hb, B, h1, h2⟩ := h.bsC hl h8
  have c := conv_bs (B.below k) cap
  rwa [bl_getD] at c
theorem own0 (w : World) (base : Nat) (hb : base ≤ w.heap.size) : Own (w.alloc (.cells #[] 5)) base (.slice (some ⟨w.heap.size, 0, none⟩) 0 0) [] :=
  ⟨rfl, .inr ⟨w.heap.size, 0, _, rfl, hb, heap_alloc_new w _, Nat.le_refl _, by unfold maxLen; omega, rfl, rfl⟩⟩
theorem own_there {w : World} {base g m cap : Nat} {l : List Nat} (h : Own w base (.slice (some ⟨g, 0, none⟩) m cap) l) : w.there g 0 l.length := by
  rcases h.2 with ⟨h0, _⟩ | ⟨g', cap', cur, hv, hb, hh, hc, _, hcs, ht⟩
  · cases h0
  · simp only [Value.slice.injEq, Option.some.injEq, Addr.mk.injEq, and_true, true_and] at hv
    obtain ⟨rfl, _, rfl⟩ := hv
    intro j hj
    rw [cell_of_row w g (0 + j) cur _ (0, 0) hh]
    refine ⟨?_, frozen_of_row w g _ cur _ hh⟩
    rw [Array.getElem?_eq_getElem (by omega)]
    rfl
theorem there_set {w : World} {b n : Nat} (h : w.there b 0 n) (b' i : Nat) (v : Value) : (w.setCell ⟨b', i, none⟩ v).there b 0 n := World.there_setCells h b' i [v]
theorem bs_other {w : World} {b off n : Nat} {f : Nat → Nat} (h : Bs w b off n f) {b' : Nat} (hb : b ≠ b') (i : Nat) (v : Value) : Bs (w.setCell ⟨b', i, none⟩ v) b off n f :=
  ⟨by simpa [World.setCell] using h.1, h.2.1, fun j hj => (World.cell?_setCell_other _ _ _ _ (fun q => hb (by simpa using (congrArg Addr.block q).symm))).trans (h.2.2 j hj)⟩
theorem there_below {B : Nat} {w w' : World} {b n : Nat} (h : w.there b 0 n) (hb : b < B) (k : Below B w w') : w'.there b 0 n := fun j hj => by
  have hc : w'.cell? ⟨b, 0 + j, none⟩ = w.cell? ⟨b, 0 + j, none⟩ := k.cell (p := ⟨b, 0 + j, none⟩) hb
  have hf : w'.frozen? ⟨b, 0 + j, none⟩ = w.frozen? ⟨b, 0 + j, none⟩ := k.frozen (p := ⟨b, 0 + j, none⟩) hb
  rw [hc, hf]
  exact h j hj
end Go.Proofs.YtoecgabdjpgleaaGreatDoor.By
