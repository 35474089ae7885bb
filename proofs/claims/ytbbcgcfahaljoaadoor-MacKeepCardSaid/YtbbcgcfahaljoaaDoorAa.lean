/-
  Bytes in memory, in general: a slice of the call's own, appends, strings of bytes, bytes that come in.
  Conditions: none.
  Bytes in the base sixteen; the contract of hash.Hex.
  Conditions: none.
  Bytes and bits; the field's product, the inverse and S in numbers; the contracts of sundialref05.times, inverse and sub.
  Conditions: the arguments are bytes.
  S of a byte in numbers; the contract of sundialref05.sub.
  Conditions: the argument is a byte.
  The contracts of sundialref05.xor, doubled and moved.
  Conditions: rows of sixteen bytes are handed in.
  The contracts of sundialref05.moved and mixed.
  Conditions: a row of sixteen bytes is handed in.
  The round keys in numbers; the contract of sundialref05.keys.
  Conditions: a key of sixteen bytes is handed in.
-/
import Derived.Test.YtbbcgcfahaljoaaDoorProg
import Derived.WalkKit
import Derived.WalkLawsBesides
import Derived.Lib.Hide
import Derived.BigQuiet
import Derived.Maps.AppendAt
import Derived.Laws.OwnMore
import Derived.OwnWalk
import Derived.Deep.Upon
import Derived.KernelRfl
import Derived.Laws.IdiomStrings
import Derived.Laws.MakeOwn
import Derived.Deep.MidRow
import Derived.BigRegion
import Derived.Deep.RegionHeld3
import Derived.Deep.RegionLaw
import Derived.ProofKit
import Derived.OpenShut
import Derived.Lib.SmallJoins
import Derived.SizedLaws
namespace Go.Proofs.YtbbcgcfahaljoaaDoor.By
open Go.ChangeShapes Go.WideShapes Go.ChangeAt Go.RowKit Go.Joins
set_option linter.unusedVariables false
set_option linter.unusedSimpArgs false

/-- n bytes begin at b, off: byte i is f i. -/
def Bs (w : World) (b off n : Nat) (f : Nat → Nat) : Prop :=
  b < w.heap.size ∧ (∀ i, f i < 256) ∧ ∀ i, i < n → w.cell? ⟨b, off + i, none⟩ = some (.int .u8 (f i))
theorem Bs.below {w w' : World} {b off n : Nat} {f : Nat → Nat} (h : Bs w b off n f) (k : Below w.heap.size w w') : Bs w' b off n f :=
  ⟨Nat.lt_of_lt_of_le h.1 k.size, h.2.1, fun i hi => (k.cell (p := ⟨b, off + i, none⟩) h.1).trans (h.2.2 i hi)⟩
/-- an append whose outcome is known. -/
theorem wpList_append_eq {P : Program} {w : World} {ops : Array Oper} {rest : List Oper} {o : Oper} {a : Act} {Q : Exit → Act → World → Prop} (hgd : o.guard = none) (s x : Operand) (t : TypeId)
    (ho : o.op = .call { callee := .builtin .append, args := #[s, x], argTypes := #[t, t] }) (v xv v' : Value) (w' : World) (hs : a.eval s = v) (hx : a.eval x = xv)
    (hr : (Builtin.append_ #[t, t] o.type #[v, xv]).run P w = .ok v' w') (h : wpList P ops Q rest (a.put o.dst v') w') : wpList P ops Q (o :: rest) a w := by
  refine wpList_plain hgd fun K hK => ?_
  unfold Oper.wp execOp
  simp only [ho, resolve, invoke, builtin, Sem.run_bind, Sem.run_pure, Result.andThen_ok, List.map_toArray, List.map_cons, List.map_nil, hs, hx, hr]
  exact hK _ _ h
theorem info_u8 : (Tryd.prog.info? 5).map (fun i => (i.zero, i.size, i.bytes)) = some (some (.int .u8 0), 1, 1) := by kernel_rfl
/-- bytes as cells. -/
def cl (l : List Nat) : List Value := l.map fun (x : Nat) => Value.int .u8 (x : Int)
theorem cl_len (l : List Nat) : (cl l).length = l.length := by simp [cl]
theorem cl_app (l k : List Nat) : cl (l ++ k) = cl l ++ cl k := by simp [cl]
theorem cl_one (l : List Nat) : ∀ u ∈ cl l, u.oneCell' = true := by
  intro u hu
  simp only [cl, List.mem_map] at hu
  obtain ⟨x, _, rfl⟩ := hu
  rfl
/-- v is a slice of the call's own that holds just these bytes. -/
def Own (w : World) (base : Nat) (v : Value) (l : List Nat) : Prop := w.ownsRow base 5 1 v l.length (cl l)
theorem Own.block {w : World} {base : Nat} {v : Value} {l : List Nat} (h : Own w base v l) : ∀ k, v.ownBlock = some k → base ≤ k := by
  intro k hk
  rcases h.2 with ⟨rfl, _⟩ | ⟨g, cap, cur, rfl, hb, _⟩
  · simp [Value.ownBlock] at hk
  · simp [Value.ownBlock] at hk
    omega
theorem Own.form {w : World} {base : Nat} {v : Value} {l : List Nat} (h : Own w base v l) (hl : 0 < l.length) : ∃ g cap, v = .slice (some ⟨g, 0, none⟩) l.length cap ∧ base ≤ g ∧ g < w.heap.size ∧ l.length ≤ cap := by
  rcases h.2 with ⟨_, h0⟩ | ⟨g, cap, cur, hv, hb, hh, hc, _⟩
  · omega
  · exact ⟨g, cap, hv, hb, (Array.getElem?_eq_some_iff.1 hh).1, hc⟩
/-- append of one byte that the statement lays. -/
theorem app1 {w : World} {base : Nat} {v : Value} {l : List Nat} (h : Own w base v l) (x : Nat) (hb : base ≤ w.heap.size) (hn : l.length + 1 ≤ 140737488355328) (ty : TypeId) :
    ∃ v' w', (Builtin.append_ #[26, 26] ty #[v, .slice (some ⟨w.heap.size, 0, none⟩) 1 1]).run Tryd.prog (w.alloc (.cells #[.int .u8 (x : Int)] 5)) = .ok v' w' ∧ Own w' base v' (l ++ [x]) ∧ Below base w w' ∧ w.heap.size ≤ w'.heap.size := by
  obtain ⟨i, hi, hz, hs, hby⟩ := info_parts info_u8
  obtain ⟨v', w', hr, ho, hg, _, _⟩ := run_append_own_at (P := Tryd.prog) (w.alloc (.cells #[.int .u8 (x : Int)] 5)) base 26 ty 5 i (.int .u8 0) 1 1 Tryd.underlying26 hi hz hs hby rfl (by decide) v l.length (cl l) (World.ownsRow.alloc h _) ⟨w.heap.size, 0, none⟩ 1 1 (cl [x]) rfl
    (by intro j u hj; cases j with | zero => (simp [cl] at hj; subst hj; simp [Addr.add, go_sem]) | succ j => simp [cl] at hj) (cl_one _) (by unfold maxLen; omega) (by omega) (by simp; omega)
  have hB : Below base w (w.alloc (.cells #[.int .u8 (x : Int)] 5)) := (Below.refl base w).alloc hb _
  have hB2 := hB.grown hg (by simp; omega) h.block
  refine ⟨v', w', hr, ?_, hB2, hB2.size⟩
  unfold Own
  rw [cl_app, List.length_append]
  exact ho
/-- the first n bytes. -/
def bl (f : Nat → Nat) (n : Nat) : List Nat := (List.range n).map f
theorem bl_len (f : Nat → Nat) (n : Nat) : (bl f n).length = n := by simp [bl]
/-- append of bytes that lie in memory. -/
theorem appB {w : World} {base : Nat} {v : Value} {l : List Nat} (h : Own w base v l) {b off n : Nat} {f : Nat → Nat} (B : Bs w b off n f) (cap : Nat) (hb : base ≤ w.heap.size) (hn : l.length + n ≤ 140737488355328) (ty : TypeId) :
    ∃ v' w', (Builtin.append_ #[26, 26] ty #[v, .slice (some ⟨b, off, none⟩) n cap]).run Tryd.prog w = .ok v' w' ∧ Own w' base v' (l ++ bl f n) ∧ Below base w w' ∧ w.heap.size ≤ w'.heap.size := by
  obtain ⟨i, hi, hz, hs, hby⟩ := info_parts info_u8
  obtain ⟨v', w', hr, ho, hg, _, _⟩ := run_append_own_at (P := Tryd.prog) w base 26 ty 5 i (.int .u8 0) 1 1 Tryd.underlying26 hi hz hs hby rfl (by decide) v l.length (cl l) h ⟨b, off, none⟩ n cap (cl (bl f n)) (by rw [cl_len, bl_len]; omega)
    (by
      intro j u hj
      have hj' : j < n := by have := (List.getElem?_eq_some_iff.1 hj).1; rw [cl_len, bl_len] at this; exact this
      have e := B.2.2 j hj'
      have : u = .int .u8 (f j : Int) := by simpa [cl, bl, hj'] using hj.symm
      rw [this]
      cases j <;> simpa [Addr.add] using e) (cl_one _) (by unfold maxLen; omega) (by omega) hb
  have hB2 := (Below.refl base w).grown hg hb h.block
  refine ⟨v', w', hr, ?_, hB2, hB2.size⟩
  unfold Own
  rw [cl_app, List.length_append, bl_len]
  exact ho
theorem Own.nil (w : World) (base : Nat) : Own w base (.slice none 0 0) [] := World.ownsRow_nil w base _ 1
def sl : Value → Nat
  | .slice _ l _ => l
  | _ => 0
theorem bstepB {B : Nat} {a b c : World} (h : Below B a b) (k : Below B b c) : Below B a c := h.trans k
/-- a slice of the call's own as bytes in memory. -/
theorem Own.bs {w : World} {base : Nat} {v : Value} {l : List Nat} (h : Own w base v l) (hl : 0 < l.length) (h8 : ∀ x ∈ l, x < 256) : ∃ g cap, v = .slice (some ⟨g, 0, none⟩) l.length cap ∧ base ≤ g ∧ Bs w g 0 l.length (fun i => l.getD i 0) := by
  rcases h.2 with ⟨_, h0⟩ | ⟨g, cap, cur, hv, hb, hh, hc, _, hcs, ht⟩
  · omega
  · refine ⟨g, cap, hv, hb, (Array.getElem?_eq_some_iff.1 hh).1, fun i => ?_, fun i hi => ?_⟩
    · show l.getD i 0 < 256
      rw [List.getD_eq_getElem?_getD]
      cases e : l[i]? with
      | none => simp
      | some x => simpa using h8 x (List.mem_of_getElem? e)
    · have e : (cl l)[i]? = some (.int .u8 ((l.getD i 0 : Nat) : Int)) := by simp [cl, List.getD_eq_getElem?_getD, hi]
      rw [← ht, Nat.mul_one, List.getElem?_take, if_pos hi] at e
      simp only [World.cell?, hh, Nat.zero_add]
      simpa using e
theorem brefl (w : World) : Below w.heap.size w w := Below.refl _ _
theorem balloc {a b : World} (h : Below a.heap.size a b) (o : Obj) : Below a.heap.size a (b.alloc o) := h.alloc h.size o
theorem bstep {a b c : World} (h : Below a.heap.size a b) (k : Below b.heap.size b c) : Below a.heap.size a c := h.trans (k.mono h.size)
theorem bdrew {a b : World} (h : Below a.heap.size a b) (n : Nat) : Below a.heap.size a (b.drewN n) := h.trans ⟨rfl, rfl, rfl, Nat.le_refl _, fun _ _ => rfl⟩
theorem Own.le {w : World} {base base' : Nat} {v : Value} {l : List Nat} (h : Own w base v l) (hb : base' ≤ base) : Own w base' v l :=
  ⟨h.1, h.2.elim Or.inl (fun ⟨g, cap, cur, hv, hg, r⟩ => Or.inr ⟨g, cap, cur, hv, Nat.le_trans hb hg, r⟩)⟩
theorem Bs.belowB {B : Nat} {w w' : World} {b off n : Nat} {f : Nat → Nat} (h : Bs w b off n f) (hb : b < B) (k : Below B w w') : Bs w' b off n f :=
  ⟨Nat.lt_of_lt_of_le h.1 k.size, h.2.1, fun i hi => (k.cell (p := ⟨b, off + i, none⟩) hb).trans (h.2.2 i hi)⟩
/-- bytes as a string. -/
def bs8 (l : List Nat) : ByteArray := ⟨(l.map UInt8.ofNat).toArray⟩
theorem conv_bs {w : World} {b off n : Nat} {f : Nat → Nat} (B : Bs w b off n f) (cap : Nat) :
    (convert 26 9 (.slice (some ⟨b, off, none⟩) n cap)).run Tryd.prog w = .ok (.string (bs8 (bl f n))) w := by
  have h := run_convert_bytes_back (P := Tryd.prog) w 26 9 5 ⟨b, off, none⟩ cap ((bl f n).map UInt8.ofNat) Tryd.underlying26 Tryd.underlying5 Tryd.underlying9 (by
    intro j hj
    have hj' : j < n := by simpa [bl_len] using hj
    have e := B.2.2 j hj'
    have g := B.2.1 j
    have x : ((UInt8.ofNat (f j)).toNat : Int) = (f j : Int) := by rw [UInt8.toNat_ofNat']; omega
    have y : ((bl f n).map UInt8.ofNat)[j] = UInt8.ofNat (f j) := by simp [bl]
    rw [y, x]
    cases j <;> simpa [Addr.add] using e)
  rw [List.length_map, bl_len] at h
  exact h
theorem bs8_inj {l k : List Nat} (hl : ∀ x ∈ l, x < 256) (hk : ∀ x ∈ k, x < 256) (h : bs8 l = bs8 k) : l = k := by
  have h2 : l.map UInt8.ofNat = k.map UInt8.ofNat := by
    have := congrArg (fun b : ByteArray => b.data.toList) h
    simpa [bs8] using this
  have h3 := congrArg (List.map UInt8.toNat) h2
  simp only [List.map_map] at h3
  have e : ∀ l : List Nat, (∀ x ∈ l, x < 256) → l.map (UInt8.toNat ∘ UInt8.ofNat) = l := fun l hl => by
    conv => rhs; rw [← List.map_id l]
    apply List.map_congr_left
    intro x hx
    have := hl x hx
    simp only [Function.comp, id]
    rw [UInt8.toNat_ofNat']
    omega
  rwa [e l hl, e k hk] at h3
/-- append of bytes that the statement lays. -/
theorem appL {w : World} {base : Nat} {v : Value} {l : List Nat} (h : Own w base v l) (k : List Nat) (hk : 0 < k.length) (hb : base ≤ w.heap.size) (hn : l.length + k.length ≤ 140737488355328) (ty : TypeId) :
    ∃ v' w', (Builtin.append_ #[26, 26] ty #[v, .slice (some ⟨w.heap.size, 0, none⟩) k.length k.length]).run Tryd.prog (w.alloc (.cells (cl k).toArray 5)) = .ok v' w' ∧ Own w' base v' (l ++ k) ∧ Below base w w' ∧ w.heap.size ≤ w'.heap.size := by
  obtain ⟨i, hi, hz, hs, hby⟩ := info_parts info_u8
  obtain ⟨v', w', hr, ho, hg, _, _⟩ := run_append_own_at (P := Tryd.prog) (w.alloc (.cells (cl k).toArray 5)) base 26 ty 5 i (.int .u8 0) 1 1 Tryd.underlying26 hi hz hs hby rfl (by decide) v l.length (cl l) (World.ownsRow.alloc h _) ⟨w.heap.size, 0, none⟩ k.length k.length (cl k) (by rw [cl_len]; omega)
    (by
      intro j u hj
      have e : (⟨w.heap.size, 0, none⟩ : Addr).add j = ⟨w.heap.size, j, none⟩ := by unfold Addr.add; split <;> simp_all
      rw [e, World.cell?_alloc_mark w _ _ (0, 0) j]
      simpa using hj) (cl_one _) (by unfold maxLen; omega) (by omega) (by simp; omega)
  have hB : Below base w (w.alloc (.cells (cl k).toArray 5)) := (Below.refl base w).alloc hb _
  have hB2 := hB.grown hg (by simp; omega) h.block
  refine ⟨v', w', hr, ?_, hB2, hB2.size⟩
  unfold Own
  rw [cl_app, List.length_append]
  exact ho
theorem bdrew1 (B : Nat) (w : World) : Below B w w.drew := ⟨rfl, rfl, rfl, Nat.le_refl _, fun _ _ => rfl⟩
/-- a slice's cells, seen from the block's beginning. -/
theorem Bs.at {w : World} {b off n : Nat} {f : Nat → Nat} (h : Bs w b off n f) {i : Nat} (hi : i < n) : w.cell? ⟨b, off + i, none⟩ = some (.int .u8 (f i)) := h.2.2 i hi
theorem wrap_in {a : Int} (h : -9223372036854775808 ≤ a) (h' : a ≤ 9223372036854775807) : IntKind.i64.wrap a = a := by
  simp only [IntKind.wrap, IntKind.bits, IntKind.signed]
  simp
  omega
theorem Bs.part {w : World} {b off n : Nat} {f : Nat → Nat} (h : Bs w b off n f) (o m : Nat) (hm : o + m ≤ n) : Bs w b (off + o) m (fun i => f (o + i)) :=
  ⟨h.1, fun i => h.2.1 _, fun i hi => by rw [Nat.add_assoc]; exact h.2.2 (o + i) (by omega)⟩
theorem bl_add (f : Nat → Nat) (a c : Nat) : bl f (a + c) = bl f a ++ bl (fun i => f (a + i)) c := by
  unfold bl
  rw [List.range_add, List.map_append, List.map_map]
  rfl
theorem bl_get {f : Nat → Nat} {n i : Nat} (h : i < n) (l : List Nat) : (bl f n ++ l).getD i 0 = f i := by
  rw [List.getD_eq_getElem?_getD, List.getElem?_append_left (by rw [bl_len]; exact h)]
  simp [bl, h]
theorem app_get (f : Nat → Nat) (n i : Nat) (l : List Nat) : (bl f n ++ l).getD (n + i) 0 = l.getD i 0 := by
  rw [List.getD_eq_getElem?_getD, List.getElem?_append_right (by rw [bl_len]; omega), bl_len, List.getD_eq_getElem?_getD]
  congr 2
  omega
/-- a slice of the call's own, with its bounds. -/
theorem Own.bsC {w : World} {base : Nat} {v : Value} {l : List Nat} (h : Own w base v l) (hl : 0 < l.length) (h8 : ∀ x ∈ l, x < 256) : ∃ g cap, v = .slice (some ⟨g, 0, none⟩) l.length cap ∧ base ≤ g ∧ Bs w g 0 l.length (fun i => l.getD i 0) ∧ l.length ≤ cap ∧ cap ≤ 9223372036854775807 := by
  obtain ⟨g, cap, hv, hb, B⟩ := h.bs hl h8
  refine ⟨g, cap, hv, hb, B, ?_⟩
  rcases h.2 with ⟨_, h0⟩ | ⟨g', cap', cur, hv', _, _, hc, hm, _⟩
  · omega
  · rw [hv] at hv'
    simp only [Value.slice.injEq] at hv'
    obtain ⟨_, _, rfl⟩ := hv'
    unfold maxLen at hm
    exact ⟨hc, by omega⟩
theorem mk_run (c : Nat) (hc : c ≤ 281474976710656) (w : World) : (Instr.makeSlice 26 (.int .i64 0) (.int .i64 (c : Int))).run Tryd.prog w = .ok (.slice (some ⟨w.heap.size, 0, none⟩) 0 c) (w.alloc (.cells (madeCells #[.int .u8 0] c) 5)) := by
  obtain ⟨i, hi, hz, hs, hby⟩ := info_parts info_u8
  have h := run_make (P := Tryd.prog) w 26 5 i (.int .u8 0) Tryd.underlying26 hi hz .i64 .i64 0 c (Int.le_refl _) (by omega) (by rw [hby]; omega) (by omega)
  rw [hs, Nat.mul_one] at h
  exact h
theorem mk_own' (w : World) (base : Nat) (hb : base ≤ w.heap.size) (c : Nat) (hc : c ≤ 281474976710656) : Own (w.alloc (.cells (madeCells #[.int .u8 0] c) 5)) base (.slice (some ⟨w.heap.size, 0, none⟩) 0 c) [] :=
  ⟨rfl, .inr ⟨w.heap.size, c, _, rfl, hb, heap_alloc_new w _, Nat.zero_le _, by unfold maxLen; omega, by rw [size_madeCells, Nat.mul_one], by simp [cl]⟩⟩
/-- an append whose outcome is known, in a region that draws its order. -/
theorem step_append_eq {P : Program} {w : World} {ops : Array Oper} {o : Oper} {a : Act} {K : Act → World → Prop} {Q : Exit → Act → World → Prop} {E : Prop} (hgd : o.guard = none) (s x : Operand) (t : TypeId)
    (ho : o.op = .call { callee := .builtin .append, args := #[s, x], argTypes := #[t, t] }) (v xv v' : Value) (w' : World) (hs : a.eval s = v) (hx : a.eval x = xv)
    (hr : (Builtin.append_ #[t, t] o.type #[v, xv]).run P w = .ok v' w') (h : K (a.put o.dst v') w') :
    if Region.wanted o (yielded ops a.tmps) = true then Oper.wp P o a w K Q else E := by
  have hw : Region.wanted o (yielded ops a.tmps) = true := by simp [Region.wanted, hgd]
  rw [if_pos hw]
  unfold Oper.wp execOp
  simp only [ho, resolve, invoke, builtin, Sem.run_bind, Sem.run_pure, Result.andThen_ok, List.map_toArray, List.map_cons, List.map_nil, hs, hx, hr]
  exact h
/-- append of bytes that the statement lays, where there is room. -/
theorem appR {w : World} {base g cap : Nat} {l : List Nat} (h : Own w base (.slice (some ⟨g, 0, none⟩) l.length cap) l) (k : List Nat) (hg : g < w.heap.size) (hk : l.length + k.length ≤ cap) (hb : base ≤ g) (ty : TypeId) :
    ∃ w', (Builtin.append_ #[26, 26] ty #[.slice (some ⟨g, 0, none⟩) l.length cap, .slice (some ⟨w.heap.size, 0, none⟩) k.length k.length]).run Tryd.prog (w.alloc (.cells (cl k).toArray 5)) = .ok (.slice (some ⟨g, 0, none⟩) (l.length + k.length) cap) w' ∧ Own w' base (.slice (some ⟨g, 0, none⟩) (l ++ k).length cap) (l ++ k) ∧ Below base w w' := by
  obtain ⟨i, hi, hz, hs, hby⟩ := info_parts info_u8
  obtain ⟨w', hr, ho, hgr⟩ := run_append_fits (P := Tryd.prog) (w.alloc (.cells (cl k).toArray 5)) base 26 ty 5 i 1 Tryd.underlying26 hi hs g l.length cap (cl l) (World.ownsRow.alloc h _) ⟨w.heap.size, 0, none⟩ k.length k.length (cl k) (by rw [cl_len]; omega)
    (by
      intro j u hj
      have e : (⟨w.heap.size, 0, none⟩ : Addr).add j = ⟨w.heap.size, j, none⟩ := by unfold Addr.add; split <;> simp_all
      rw [e, World.cell?_alloc_mark w _ _ (0, 0) j]
      simpa using hj) (cl_one _) hk
  have hB : Below base w (w.alloc (.cells (cl k).toArray 5)) := (Below.refl base w).alloc (by omega) _
  refine ⟨w', hr, ?_, hB.grown hgr (by simp; omega) (fun j hj => by cases hj; exact hb)⟩
  unfold Own
  rw [cl_app, List.length_append]
  exact ho
theorem Own.bs0 {w : World} {base g m cap : Nat} {l : List Nat} (h : Own w base (.slice (some ⟨g, 0, none⟩) m cap) l) (h8 : ∀ x ∈ l, x < 256) : Bs w g 0 l.length (fun i => l.getD i 0) := by
  rcases h.2 with ⟨h0, _⟩ | ⟨g', cap', cur, hv, hb, hh, hc, _, hcs, ht⟩
  · cases h0
  · simp only [Value.slice.injEq, Option.some.injEq, Addr.mk.injEq, and_true, true_and] at hv
    obtain ⟨rfl, _, rfl⟩ := hv
    refine ⟨(Array.getElem?_eq_some_iff.1 hh).1, fun i => ?_, fun i hi => ?_⟩
    · show l.getD i 0 < 256
      rw [List.getD_eq_getElem?_getD]
      cases e : l[i]? with
      | none => simp
      | some x => simpa using h8 x (List.mem_of_getElem? e)
    · have e : (cl l)[i]? = some (.int .u8 ((l.getD i 0 : Nat) : Int)) := by simp [cl, List.getD_eq_getElem?_getD, hi]
      rw [← ht, Nat.mul_one, List.getElem?_take, if_pos hi] at e
      simp only [World.cell?, hh, Nat.zero_add]
      simpa using e
theorem bl_getD (l : List Nat) : bl (fun i => l.getD i 0) l.length = l := by
  apply List.ext_getElem?
  intro i
  by_cases h : i < l.length
  · simp [bl, h]
  · rw [List.getElem?_eq_none (by rw [bl_len]; omega), List.getElem?_eq_none (by omega)]
/-- an append whose outcome is known, behind a guard that holds. -/
theorem append_want {P : Program} {w : World} {ops : Array Oper} {rest : List Oper} {o : Oper} {a : Act} {Q : Exit → Act → World → Prop} (hw : Region.wanted o (yielded ops a.tmps) = true) (s x : Operand) (t : TypeId)
    (ho : o.op = .call { callee := .builtin .append, args := #[s, x], argTypes := #[t, t] }) (v xv v' : Value) (w' : World) (hs : a.eval s = v) (hx : a.eval x = xv)
    (hr : (Builtin.append_ #[t, t] o.type #[v, xv]).run P w = .ok v' w') (h : wpList P ops Q rest (a.put o.dst v') w') : wpList P ops Q (o :: rest) a w := by
  refine BigFrame.wpList_want hw fun K hK => ?_
  unfold Oper.wp execOp
  simp only [ho, resolve, invoke, builtin, Sem.run_bind, Sem.run_pure, Result.andThen_ok, List.map_toArray, List.map_cons, List.map_nil, hs, hx, hr]
  exact hK _ _ h
theorem bs8_size (l : List Nat) : (bs8 l).size = l.length := by simp [bs8, ByteArray.size]
theorem idx_bs8 (l : List Nat) (j x : Nat) (hx : l[j]? = some x) (hb : x < 256) (w : World) : (Instr.index 9 (.string (bs8 l)) (.int .i64 (j : Int))).run Tryd.prog w = .ok (.int .u8 (x : Int)) w := by
  have hj : j < l.length := (List.getElem?_eq_some_iff.1 hx).1
  have hs := bs8_size l
  rw [run_index_string w _ _ _ _ Tryd.underlying9]
  rw [dif_pos (by rw [hs]; omega)]
  have e : (bs8 l)[(j : Int).toNat]'(by rw [hs]; omega) = UInt8.ofNat x := by
    have := (List.getElem?_eq_some_iff.1 hx).2
    simp only [Int.toNat_natCast]
    show (bs8 l).data[j]'_ = _
    simp [bs8, this]
  rw [e]
  simp
  omega
theorem bl_succ (g : Nat → Nat) (n : Nat) : bl g (n + 1) = bl g n ++ [g n] := by simp [bl, List.range_succ]
theorem bl_congr {g g' : Nat → Nat} {n : Nat} (h : ∀ i, i < n → g i = g' i) : bl g n = bl g' n := by
  unfold bl
  apply List.map_congr_left
  intro i hi
  exact h i (by simpa using hi)
theorem bdr {a b : World} (h : Below a.heap.size a b) : Below a.heap.size a b.drew := h.drew
/-- the value v is a slice of n bytes, byte i is f i. -/
def Arg (w : World) (v : Value) (n : Nat) (f : Nat → Nat) : Prop :=
  ∃ a cap, v = .slice a n cap ∧ n ≤ cap ∧ cap ≤ 140737488351232 ∧ (∀ i, f i < 256) ∧ (0 < n → ∃ b off, a = some ⟨b, off, none⟩ ∧ Bs w b off n f) ∧ (a = none → cap = 0)
theorem Arg.below {w w' : World} {v : Value} {n : Nat} {f : Nat → Nat} (h : Arg w v n f) (k : Below w.heap.size w w') : Arg w' v n f := by
  obtain ⟨a, cap, e, h1, h2, h3, h4, h5⟩ := h
  exact ⟨a, cap, e, h1, h2, h3, fun hn => by obtain ⟨b, off, ea, B⟩ := h4 hn; exact ⟨b, off, ea, B.below k⟩, h5⟩
theorem cells5 : Tryd.prog.cellsOf 5 = 1 := by kernel_rfl
theorem bytes5 : Tryd.prog.bytesOf 5 = 1 := by kernel_rfl
set_option maxRecDepth 100000 in
theorem open_bytes {H : Type} {enc : TypeId × Value → H} {W : World} {base : Nat} {v : Value} {d : DataW H} {p : List MemPlace}
    (hv : Value.okWide Tryd.prog W .any base 26 v) (h : DataW.Trod enc Tryd.prog W 0 (fun _ => true) true 26 v d p)
    (hw : ∀ es sp, d = .slice es sp → (es.length + sp.length) * Tryd.prog.bytesOf 5 ≤ reachBytes) : ∃ n f, Arg W v n f := by
  obtain ⟨a0, len, cap, rfl⟩ := okWide_slice Tryd.underlying26 hv
  obtain ⟨fuel, hf⟩ := h
  rcases open_ints Tryd.underlying26 Tryd.underlying5 cells5 hf with ⟨hcs, hx⟩ | ⟨a, len', cap', zs, hcs, _, hl, hm, hz, hx, hcell, hwz⟩
  · simp [Value.cells] at hcs
    obtain ⟨rfl, rfl, rfl⟩ := hcs
    exact ⟨0, fun _ => 0, none, 0, rfl, Nat.le_refl _, by omega, fun _ => by simp, fun h => absurd h (by omega), fun _ => rfl⟩
  · simp [Value.cells] at hcs
    obtain ⟨rfl, rfl, rfl⟩ := hcs
    simp only [if_true] at hz
    simp only [Prod.mk.injEq] at hx
    have hb := hw _ _ hx.1
    rw [bytes5, Nat.mul_one] at hb
    have hlen : (lits .u8 (zs.take len) : List (DataW H)).length + (lits .u8 (zs.drop len) : List (DataW H)).length = cap := by simp [lits]; omega
    rw [hlen] at hb
    unfold reachBytes at hb
    have hbyte : ∀ i, 0 ≤ zs.getD i 0 ∧ zs.getD i 0 < 256 := by
      intro i
      rw [List.getD_eq_getElem?_getD]
      cases e : zs[i]? with
      | none => simp
      | some x =>
        have hx := hwz x (List.mem_of_getElem? e)
        simp [Lit.wf, IntKind.min, IntKind.max, IntKind.bits, IntKind.signed] at hx
        simp
        omega
    have hfb : ∀ i, (zs.getD i 0).toNat < 256 := fun i => by have := hbyte i; omega
    refine ⟨len, fun i => (zs.getD i 0).toNat, some a, cap, rfl, hl, by omega, hfb, fun hn => ?_, fun h => by cases h⟩
    have c0 := hcell 0 (by omega)
    obtain ⟨b, off, s⟩ := a
    have sp : s = none := by simpa [Addr.add] using World.cell?_spot c0
    subst sp
    refine ⟨b, off, rfl, World.block_lt_of_cell? W _ (show W.cell? ⟨b, off, none⟩ = some _ by simpa [Addr.add] using c0), hfb, fun i hi => ?_⟩
    have e : (⟨b, off, none⟩ : Addr).add i = ⟨b, off + i, none⟩ := by unfold Addr.add; split <;> simp_all
    have c := hcell i (by omega)
    rw [e] at c
    rw [c]
    show _ = some (Value.int .u8 (((zs.getD i 0).toNat : Nat) : Int))
    rw [Int.toNat_of_nonneg (hbyte i).1]
/-- append of them to a slice of the call's own. -/
theorem Arg.app {w0 w : World} {va : Value} {n : Nat} {f : Nat → Nat} (A : Arg w0 va n f) (k : Below w0.heap.size w0 w) {base : Nat} {v : Value} {l : List Nat} (h : Own w base v l) (hb : base ≤ w.heap.size) (hn : l.length + n ≤ 140737488355328) (ty : TypeId) :
    ∃ v' w', (Builtin.append_ #[26, 26] ty #[v, va]).run Tryd.prog w = .ok v' w' ∧ Own w' base v' (l ++ bl f n) ∧ Below base w w' ∧ w.heap.size ≤ w'.heap.size ∧ (v ≠ .slice none 0 0 → v' ≠ .slice none 0 0) := by
  obtain ⟨i, hi, hz, hs, hby⟩ := info_parts info_u8
  obtain ⟨a, cap, rfl, h1, h2, h3, h4, h5⟩ := A
  cases a with
  | none =>
    obtain rfl := h5 rfl
    obtain rfl : n = 0 := by omega
    exact ⟨v, w, run_append_owned_none (P := Tryd.prog) w base 26 ty 5 i 1 Tryd.underlying26 hi v l.length (cl l) h, by simpa [bl] using h, Below.refl _ _, Nat.le_refl _, id⟩
  | some ad =>
    obtain ⟨v', w', hr, ho, hg, hnil, _⟩ := run_append_own_at (P := Tryd.prog) w base 26 ty 5 i (.int .u8 0) 1 1 Tryd.underlying26 hi hz hs hby rfl (by decide) v l.length (cl l) h ad n cap (cl (bl f n)) (by rw [cl_len, bl_len]; omega)
      (by
        intro j u hj
        have hj' : j < n := by have := (List.getElem?_eq_some_iff.1 hj).1; rw [cl_len, bl_len] at this; exact this
        obtain ⟨b, off, ea, B⟩ := h4 (by omega)
        cases ea
        have e := (B.below k).2.2 j hj'
        have : u = .int .u8 (f j : Int) := by simpa [cl, bl, hj'] using hj.symm
        rw [this]
        cases j <;> simpa [Addr.add] using e) (cl_one _) (by unfold maxLen; omega) (by omega) hb
    have hB2 := (Below.refl base w).grown hg hb h.block
    refine ⟨v', w', hr, ?_, hB2, hB2.size, fun hv hv' => hv (hnil.1 hv').1⟩
    unfold Own
    rw [cl_app, List.length_append, bl_len]
    exact ho
theorem conv_zero (w : World) (p : Option Addr) (c : Nat) : (convert 26 9 (.slice p 0 c)).run Tryd.prog w = .ok (.string (bs8 [])) w := by
  rw [run_convert_bytes_string w 26 9 5 _ 0 c Tryd.underlying26 Tryd.underlying5 Tryd.underlying9]
  cases p <;> simp [Conv.bytesToString, loadCells] <;> rfl
theorem Arg.conv {w0 w : World} {va : Value} {n : Nat} {f : Nat → Nat} (A : Arg w0 va n f) (k : Below w0.heap.size w0 w) : (convert 26 9 va).run Tryd.prog w = .ok (.string (bs8 (bl f n))) w := by
  obtain ⟨a, cap, rfl, h1, h2, h3, h4, h5⟩ := A
  by_cases hn : 0 < n
  · obtain ⟨b, off, rfl, B⟩ := h4 hn
    exact conv_bs (B.below k) cap
  · obtain rfl : n = 0 := by omega
    exact conv_zero w a cap
/-- a slice of the call's own that is not nil. -/
theorem Own.bsF {w : World} {base : Nat} {v : Value} {f : Nat → Nat} {n : Nat} (h : Own w base v (bl f n)) (hv : v ≠ .slice none 0 0) (hf : ∀ i, f i < 256) : ∃ g cap, v = .slice (some ⟨g, 0, none⟩) n cap ∧ base ≤ g ∧ Bs w g 0 n f ∧ n ≤ cap ∧ cap ≤ 9223372036854775807 := by
  rcases h.2 with ⟨h0, _⟩ | ⟨g, cap, cur, e, hb, hh, hc, hm, hcs, ht⟩
  · exact absurd h0 hv
  · rw [bl_len] at e hc ht
    refine ⟨g, cap, e, hb, ⟨(Array.getElem?_eq_some_iff.1 hh).1, hf, fun i hi => ?_⟩, hc, by unfold maxLen at hm; omega⟩
    have e2 : (cl (bl f n))[i]? = some (.int .u8 ((f i : Nat) : Int)) := by simp [cl, bl, hi]
    rw [← ht, Nat.mul_one, List.getElem?_take, if_pos hi] at e2
    simp only [World.cell?, hh, Nat.zero_add]
    simpa using e2
/-- a digest as a string. -/
theorem Own.conv {w w' : World} {base : Nat} {v : Value} {l : List Nat} (h : Own w base v l) (hl : 0 < l.length) (h8 : ∀ x ∈ l, x < 256) (k : Below w.heap.size w w') : (convert 26 9 v).run Tryd.prog w' = .ok (.string (bs8 l)) w' := by
  obtain ⟨g, cap, rfl, hb, B, h1, h2⟩ := h.bsC hl h8
  have c := conv_bs (B.below k) cap
  rwa [bl_getD] at c
theorem own0 (w : World) (base : Nat) (hb : base ≤ w.heap.size) : Own (w.alloc (.cells #[] 5)) base (.slice (some ⟨w.heap.size, 0, none⟩) 0 0) [] :=
  ⟨rfl, .inr ⟨w.heap.size, 0, _, rfl, hb, heap_alloc_new w _, Nat.le_refl _, by unfold maxLen; omega, rfl, rfl⟩⟩
theorem own_there {w : World} {base g m cap : Nat} {l : List Nat} (h : Own w base (.slice (some ⟨g, 0, none⟩) m cap) l) : w.there g 0 l.length := by
  rcases h.2 with ⟨h0, _⟩ | ⟨g', cap', cur, hv, hb, hh, hc, _, hcs, ht⟩
  · cases h0
  · simp only [Value.slice.injEq, Option.some.injEq, Addr.mk.injEq, and_true, true_and] at hv
    obtain ⟨rfl, _, rfl⟩ := hv
    intro j hj
    rw [cell_of_row w g (0 + j) cur _ (0, 0) hh]
    refine ⟨?_, frozen_of_row w g _ cur _ hh⟩
    rw [Array.getElem?_eq_getElem (by omega)]
    rfl
theorem there_set {w : World} {b n : Nat} (h : w.there b 0 n) (b' i : Nat) (v : Value) : (w.setCell ⟨b', i, none⟩ v).there b 0 n := World.there_setCells h b' i [v]
theorem bs_other {w : World} {b off n : Nat} {f : Nat → Nat} (h : Bs w b off n f) {b' : Nat} (hb : b ≠ b') (i : Nat) (v : Value) : Bs (w.setCell ⟨b', i, none⟩ v) b off n f :=
  ⟨by simpa [World.setCell] using h.1, h.2.1, fun j hj => (World.cell?_setCell_other _ _ _ _ (fun q => hb (by simpa using (congrArg Addr.block q).symm))).trans (h.2.2 j hj)⟩
theorem there_below {B : Nat} {w w' : World} {b n : Nat} (h : w.there b 0 n) (hb : b < B) (k : Below B w w') : w'.there b 0 n := fun j hj => by
  have hc : w'.cell? ⟨b, 0 + j, none⟩ = w.cell? ⟨b, 0 + j, none⟩ := k.cell (p := ⟨b, 0 + j, none⟩) hb
  have hf : w'.frozen? ⟨b, 0 + j, none⟩ = w.frozen? ⟨b, 0 + j, none⟩ := k.frozen (p := ⟨b, 0 + j, none⟩) hb
  rw [hc, hf]
  exact h j hj
end Go.Proofs.YtbbcgcfahaljoaaDoor.By
namespace Go.Proofs.YtbbcgcfahaljoaaDoor.By
open Go.ChangeShapes Go.WideShapes Go.ChangeAt Go.RowKit Go.Joins
set_option linter.unusedVariables false
set_option linter.unusedSimpArgs false

/-- a digit. -/
def dg (d : Nat) : Nat := if d < 10 then 48 + d else 87 + d
theorem dg_lt {d : Nat} (h : d < 16) : dg d < 256 := by unfold dg; split <;> omega
def hxL (f : Nat → Nat) : Nat → List Nat
  | 0 => []
  | k + 1 => hxL f k ++ [dg (f k / 16), dg (f k % 16)]
theorem hxL_len (f : Nat → Nat) : ∀ k, (hxL f k).length = 2 * k
  | 0 => rfl
  | k + 1 => by simp only [hxL, List.length_append, hxL_len f k, List.length_cons, List.length_nil]; omega
theorem hxL_byte {f : Nat → Nat} (hf : ∀ i, f i < 256) : ∀ k, ∀ x ∈ hxL f k, x < 256
  | 0, x, h => by simp [hxL] at h
  | k + 1, x, h => by
    have := hf k
    simp only [hxL, List.mem_append, List.mem_cons, List.not_mem_nil, or_false] at h
    rcases h with h | rfl | rfl
    · exact hxL_byte hf k x h
    · exact dg_lt (by omega)
    · exact dg_lt (by omega)
theorem hix_0 (w : World) : (Instr.index 9 (.string ⟨#[48, 49, 50, 51, 52, 53, 54, 55, 56, 57, 97, 98, 99, 100, 101, 102]⟩) (.int .u8 0)).run Tryd.prog w = .ok (.int .u8 48) w := by kernel_rfl
theorem hix_1 (w : World) : (Instr.index 9 (.string ⟨#[48, 49, 50, 51, 52, 53, 54, 55, 56, 57, 97, 98, 99, 100, 101, 102]⟩) (.int .u8 1)).run Tryd.prog w = .ok (.int .u8 49) w := by kernel_rfl
theorem hix_2 (w : World) : (Instr.index 9 (.string ⟨#[48, 49, 50, 51, 52, 53, 54, 55, 56, 57, 97, 98, 99, 100, 101, 102]⟩) (.int .u8 2)).run Tryd.prog w = .ok (.int .u8 50) w := by kernel_rfl
theorem hix_3 (w : World) : (Instr.index 9 (.string ⟨#[48, 49, 50, 51, 52, 53, 54, 55, 56, 57, 97, 98, 99, 100, 101, 102]⟩) (.int .u8 3)).run Tryd.prog w = .ok (.int .u8 51) w := by kernel_rfl
theorem hix_4 (w : World) : (Instr.index 9 (.string ⟨#[48, 49, 50, 51, 52, 53, 54, 55, 56, 57, 97, 98, 99, 100, 101, 102]⟩) (.int .u8 4)).run Tryd.prog w = .ok (.int .u8 52) w := by kernel_rfl
theorem hix_5 (w : World) : (Instr.index 9 (.string ⟨#[48, 49, 50, 51, 52, 53, 54, 55, 56, 57, 97, 98, 99, 100, 101, 102]⟩) (.int .u8 5)).run Tryd.prog w = .ok (.int .u8 53) w := by kernel_rfl
theorem hix_6 (w : World) : (Instr.index 9 (.string ⟨#[48, 49, 50, 51, 52, 53, 54, 55, 56, 57, 97, 98, 99, 100, 101, 102]⟩) (.int .u8 6)).run Tryd.prog w = .ok (.int .u8 54) w := by kernel_rfl
theorem hix_7 (w : World) : (Instr.index 9 (.string ⟨#[48, 49, 50, 51, 52, 53, 54, 55, 56, 57, 97, 98, 99, 100, 101, 102]⟩) (.int .u8 7)).run Tryd.prog w = .ok (.int .u8 55) w := by kernel_rfl
theorem hix_8 (w : World) : (Instr.index 9 (.string ⟨#[48, 49, 50, 51, 52, 53, 54, 55, 56, 57, 97, 98, 99, 100, 101, 102]⟩) (.int .u8 8)).run Tryd.prog w = .ok (.int .u8 56) w := by kernel_rfl
theorem hix_9 (w : World) : (Instr.index 9 (.string ⟨#[48, 49, 50, 51, 52, 53, 54, 55, 56, 57, 97, 98, 99, 100, 101, 102]⟩) (.int .u8 9)).run Tryd.prog w = .ok (.int .u8 57) w := by kernel_rfl
theorem hix_10 (w : World) : (Instr.index 9 (.string ⟨#[48, 49, 50, 51, 52, 53, 54, 55, 56, 57, 97, 98, 99, 100, 101, 102]⟩) (.int .u8 10)).run Tryd.prog w = .ok (.int .u8 97) w := by kernel_rfl
theorem hix_11 (w : World) : (Instr.index 9 (.string ⟨#[48, 49, 50, 51, 52, 53, 54, 55, 56, 57, 97, 98, 99, 100, 101, 102]⟩) (.int .u8 11)).run Tryd.prog w = .ok (.int .u8 98) w := by kernel_rfl
theorem hix_12 (w : World) : (Instr.index 9 (.string ⟨#[48, 49, 50, 51, 52, 53, 54, 55, 56, 57, 97, 98, 99, 100, 101, 102]⟩) (.int .u8 12)).run Tryd.prog w = .ok (.int .u8 99) w := by kernel_rfl
theorem hix_13 (w : World) : (Instr.index 9 (.string ⟨#[48, 49, 50, 51, 52, 53, 54, 55, 56, 57, 97, 98, 99, 100, 101, 102]⟩) (.int .u8 13)).run Tryd.prog w = .ok (.int .u8 100) w := by kernel_rfl
theorem hix_14 (w : World) : (Instr.index 9 (.string ⟨#[48, 49, 50, 51, 52, 53, 54, 55, 56, 57, 97, 98, 99, 100, 101, 102]⟩) (.int .u8 14)).run Tryd.prog w = .ok (.int .u8 101) w := by kernel_rfl
theorem hix_15 (w : World) : (Instr.index 9 (.string ⟨#[48, 49, 50, 51, 52, 53, 54, 55, 56, 57, 97, 98, 99, 100, 101, 102]⟩) (.int .u8 15)).run Tryd.prog w = .ok (.int .u8 102) w := by kernel_rfl
theorem hix (k : Nat) (hk : k < 16) (w : World) : (Instr.index 9 (.string ⟨#[48, 49, 50, 51, 52, 53, 54, 55, 56, 57, 97, 98, 99, 100, 101, 102]⟩) (.int .u8 (k : Int))).run Tryd.prog w = .ok (.int .u8 ((dg k : Nat) : Int)) w := by
  match k, hk with
  | 0, _ => exact hix_0 w
  | 1, _ => exact hix_1 w
  | 2, _ => exact hix_2 w
  | 3, _ => exact hix_3 w
  | 4, _ => exact hix_4 w
  | 5, _ => exact hix_5 w
  | 6, _ => exact hix_6 w
  | 7, _ => exact hix_7 w
  | 8, _ => exact hix_8 w
  | 9, _ => exact hix_9 w
  | 10, _ => exact hix_10 w
  | 11, _ => exact hix_11 w
  | 12, _ => exact hix_12 w
  | 13, _ => exact hix_13 w
  | 14, _ => exact hix_14 w
  | 15, _ => exact hix_15 w
  | _ + 16, h => exact absurd h (by omega)
theorem and15 (x : Nat) (hx : x < 256) : bits BinOp.and IntKind.u8 (x : Int) 15 = ((x % 16 : Nat) : Int) := by
  have e : (BitVec.ofInt 8 (x : Int) &&& BitVec.ofInt 8 15).toNat = x % 16 := by
    rw [BitVec.toNat_and, BitVec.toNat_ofInt, BitVec.toNat_ofInt]
    have h : ((15 : Int) % ((2 ^ 8 : Nat) : Int)).toNat = 2 ^ 4 - 1 := by decide
    rw [h, Nat.and_two_pow_sub_one_eq_mod]
    omega
  show IntKind.u8.wrap ((BitVec.ofInt 8 (x : Int) &&& BitVec.ofInt 8 15).toNat : Int) = _
  rw [e]
  simp only [IntKind.wrap, IntKind.bits, IntKind.signed]
  simp
  omega
set_option maxRecDepth 100000 in
set_option maxHeartbeats 4000000 in
theorem Hex_c (a : Option Addr) (n cap : Nat) (f : Nat → Nat) (w : World) (hn : n ≤ 140737488351232) (hf : ∀ i, f i < 256) (hc : n ≤ cap) (hcap : cap ≤ 9223372036854775807) (HA : Hid (0 < n → ∃ b off, a = some ⟨b, off, none⟩ ∧ Bs w b off n f)) :
    Calls Tryd.prog 19 #[.slice a n cap] w fun e w' => e = .returned (.string (bs8 (hxL f n))) ∧ Below w.heap.size w w' := by
  have MK := mk_run (2 * n) (by omega)
  rw [show ((2 * n : Nat) : Int) = 2 * (n : Int) from by omega] at MK
  have OW := Lib.hid (mk_own' w w.heap.size (Nat.le_refl _) (2 * n) (by omega))
  have BW := Lib.hid (balloc (brefl w) (.cells (madeCells #[.int .u8 0] (2 * n)) 5))
  have SZ : Hid (w.heap.size < (w.alloc (.cells (madeCells #[.int .u8 0] (2 * n)) 5)).heap.size) := Lib.hid (by simp)
  have HF := Lib.hid hf
  clear hf
  have k0 : (0 : Int) ≤ (n : Int) := by omega
  have k1 : (n : Int) ≤ 140737488351232 := by omega
  go_enter Tryd.func19, Tryd.ntmps19
  go_wp2_with fail
  clear MK
  generalize w.alloc (.cells (madeCells #[.int .u8 0] (2 * n)) 5) = w1 at *
  go_loopw [3, 12] (fun v i wr => ∃ k : Nat, k ≤ n ∧ i = .int .i64 k ∧ v = .slice (some ⟨w.heap.size, 0, none⟩) (2 * k) (2 * n) ∧ Own wr w.heap.size (.slice (some ⟨w.heap.size, 0, none⟩) (hxL f k).length (2 * n)) (hxL f k) ∧ Below w.heap.size w wr ∧ w.heap.size < wr.heap.size) (fun _ i _ => n - (intOf i).toNat)
  case atStart => exact ⟨0, by omega, rfl, rfl, OW.out, BW.out, SZ.out⟩
  case round =>
    clear OW BW SZ
    obtain ⟨k, hk, rfl, rfl, own, hb, hs⟩ := hrel
    rename World => wr
    have HL := hxL_len f k
    by_cases c : k < n
    · have e0 : decide ((k : Int) < (n : Int)) = true := by rw [decide_eq_true_iff]; omega
      obtain ⟨b, off, rfl, B⟩ := HA.out (by omega)
      have g := (B.below hb).2.2 k c
      have xl := HF.out k
      obtain ⟨w2, hr, ho, hb2⟩ := appR (w := wr.drew) (World.ownsRow.drew own) [dg (f k / 16), dg (f k % 16)] hs (by rw [HL]; simp; omega) (Nat.le_refl _) 26
      have HR : Hid ((Builtin.append_ #[26, 26] 26 #[.slice (some ⟨w.heap.size, 0, none⟩) (2 * k) (2 * n), .slice (some ⟨wr.heap.size, 0, none⟩) 2 2]).run Tryd.prog (wr.drew.alloc (.cells #[.int .u8 ((dg (f k / 16) : Nat) : Int), .int .u8 ((dg (f k % 16) : Nat) : Int)] 5)) = .ok (.slice (some ⟨w.heap.size, 0, none⟩) (2 * k + 2) (2 * n)) w2) := Lib.hid (by rw [HL] at hr; exact hr)
      have HO : Hid (Own w2 w.heap.size (.slice (some ⟨w.heap.size, 0, none⟩) (hxL f (k + 1)).length (2 * n)) (hxL f (k + 1))) := Lib.hid ho
      have HB2 := Lib.hid ((hb.trans (bdrew1 _ _)).trans hb2)
      have HS2 := Lib.hid (Nat.lt_of_lt_of_le hs (show wr.heap.size ≤ w2.heap.size from hb2.size))
      clear hr ho hb2 own hb hs B HL
      have I1 := hix (f k / 16) (by omega)
      have I2 := hix (f k % 16) (by omega)
      have A1 := and15 (f k) xl
      generalize f k = x at *
      rw [show ((x / 16 : Nat) : Int) = (x : Int) / 16 from by omega] at I1
      rw [show ((x % 16 : Nat) : Int) = (x : Int) % 16 from by omega] at I2
      have x0 : (0 : Int) ≤ (x : Int) := by omega
      have x1 : (x : Int) < 256 := by omega
      go_wp2_with fail
      go_region_law (refine step_append_eq rfl (.tmp 16) (.tmp 23) 26 rfl _ _ (.slice (some ⟨w.heap.size, 0, none⟩) (2 * k + 2) (2 * n)) w2 rfl rfl HR.out ?_)
      all_goals
        go_wp2_with fail
        go_roundw
        case rel => exact ⟨k + 1, by omega, by go_num, by rw [show 2 * (k + 1) = 2 * k + 2 from by omega], HO.out, HB2.out, HS2.out⟩
        case measure => simp [intOf]; omega
    · have e0 : decide ((k : Int) < (n : Int)) = false := by rw [decide_eq_false_iff_not]; omega
      obtain rfl : k = n := by omega
      have C := conv_bs (own.bs0 (hxL_byte HF.out k)) (2 * k)
      rw [bl_getD, HL] at C
      have HB0 := Lib.hid hb
      clear own hb hs
      go_wp2_with fail
      go_ret
      exact ⟨rfl, HB0.out⟩
/-- Hex of a digest. -/
theorem HexOwn_c {w : World} {base : Nat} {v : Value} {l : List Nat} (h : Own w base v l) (hl : 0 < l.length) (h8 : ∀ x ∈ l, x < 256) (hn : l.length ≤ 140737488351232) :
    Calls Tryd.prog 19 #[v] w fun e w' => e = .returned (.string (bs8 (hxL (fun i => l.getD i 0) l.length))) ∧ Below w.heap.size w w' := by
  obtain ⟨g, cap, rfl, hb, B, h1, h2⟩ := h.bsC hl h8
  exact Hex_c _ _ _ _ _ hn B.2.1 h1 h2 (Lib.hid fun _ => ⟨g, 0, rfl, B⟩)
theorem Arg.hex {w0 w : World} {va : Value} {n : Nat} {f : Nat → Nat} (A : Arg w0 va n f) (k : Below w0.heap.size w0 w) :
    Calls Tryd.prog 19 #[va] w fun e w' => e = .returned (.string (bs8 (hxL f n))) ∧ Below w.heap.size w w' := by
  obtain ⟨a, cap, rfl, h1, h2, h3, h4, h5⟩ := A
  exact Hex_c a n cap f w (by omega) h3 h1 (by omega) (Lib.hid fun hn => by obtain ⟨b, off, ea, B⟩ := h4 hn; exact ⟨b, off, ea, B.below k⟩)
end Go.Proofs.YtbbcgcfahaljoaaDoor.By
namespace Go.Proofs.YtbbcgcfahaljoaaDoor.Ae
open Go.RowKit By
set_option linter.unusedVariables false
set_option linter.unusedSimpArgs false

theorem wrap8 (n : Nat) (h : n < 256) : IntKind.u8.wrap (n : Int) = n := by
  simp only [IntKind.wrap, IntKind.bits, IntKind.signed]
  simp
  omega
theorem of8 (a : Nat) (h : a < 256) : (BitVec.ofInt 8 (a : Int)).toNat = a := by
  rw [BitVec.toNat_ofInt]
  simp
  omega
theorem xor8 (a b : Nat) (ha : a < 256) (hb : b < 256) : bits BinOp.xor IntKind.u8 (a : Int) (b : Int) = ((a ^^^ b : Nat) : Int) := by
  have h : a ^^^ b < 256 := Nat.xor_lt_two_pow (n := 8) ha hb
  show IntKind.u8.wrap (((BitVec.ofInt 8 (a : Int)) ^^^ (BitVec.ofInt 8 (b : Int))).toNat : Int) = _
  rw [BitVec.toNat_xor, of8 a ha, of8 b hb, wrap8 _ h]
theorem or8 (a b : Nat) (ha : a < 256) (hb : b < 256) : bits BinOp.or IntKind.u8 (a : Int) (b : Int) = ((a ||| b : Nat) : Int) := by
  have h : a ||| b < 256 := Nat.or_lt_two_pow (n := 8) ha hb
  show IntKind.u8.wrap (((BitVec.ofInt 8 (a : Int)) ||| (BitVec.ofInt 8 (b : Int))).toNat : Int) = _
  rw [BitVec.toNat_or, of8 a ha, of8 b hb, wrap8 _ h]
theorem and8 (a b : Nat) (ha : a < 256) (hb : b < 256) : bits BinOp.and IntKind.u8 (a : Int) (b : Int) = ((a &&& b : Nat) : Int) := by
  have h : a &&& b < 256 := Nat.lt_of_le_of_lt Nat.and_le_left ha
  show IntKind.u8.wrap (((BitVec.ofInt 8 (a : Int)) &&& (BitVec.ofInt 8 (b : Int))).toNat : Int) = _
  rw [BitVec.toNat_and, of8 a ha, of8 b hb, wrap8 _ h]
theorem and8_1 (a : Nat) (ha : a < 256) : bits BinOp.and IntKind.u8 (a : Int) 1 = ((a % 2 : Nat) : Int) := by
  have h := and8 a 1 ha (by omega)
  rw [Nat.and_one_is_mod] at h
  exact h
theorem lt_xor8 {a b : Nat} (h : a < 256) (h' : b < 256) : a ^^^ b < 256 := Nat.xor_lt_two_pow (n := 8) h h'
/-- twice a byte, in the field. -/
def xt (a : Nat) : Nat := if 128 ≤ a then (a * 2 % 256) ^^^ 27 else a * 2
theorem xt_lt {a : Nat} (h : a < 256) : xt a < 256 := by
  unfold xt
  split
  · exact lt_xor8 (by omega) (by omega)
  · omega
def tA (a : Nat) : Nat → Nat
  | 0 => a
  | i + 1 => xt (tA a i)
def tO (a b : Nat) : Nat → Nat
  | 0 => 0
  | i + 1 => if b / 2 ^ i % 2 = 1 then tO a b i ^^^ tA a i else tO a b i
/-- the product in the field. -/
def gm (a b : Nat) : Nat := tO a b 8
theorem tA_lt {a : Nat} (h : a < 256) : ∀ i, tA a i < 256
  | 0 => h
  | i + 1 => xt_lt (tA_lt h i)
theorem tO_lt {a b : Nat} (h : a < 256) : ∀ i, tO a b i < 256
  | 0 => by simp [tO]
  | i + 1 => by
    simp only [tO]
    split
    · exact lt_xor8 (tO_lt h i) (tA_lt h i)
    · exact tO_lt h i
theorem gm_lt {a b : Nat} (h : a < 256) : gm a b < 256 := tO_lt h 8

set_option maxHeartbeats 1000000 in
theorem rtimes_c (a b : Nat) (w : World) (ha : a < 256) (hb : b < 256) :
    Calls Tryd.prog 71 #[.int .u8 a, .int .u8 b] w fun e w' => e = .returned (.int .u8 (gm a b)) ∧ w' = w := by
  have HA := Lib.hid ha
  have GE : Hid (gm a b = tO a b 8) := rfl
  go_enter Tryd.func71, Tryd.ntmps71
  go_wp2_with fail
  go_loop [0, 5, 6] (fun x o i => ∃ k : Nat, k ≤ 8 ∧ i = .int .i64 k ∧ x = .int .u8 (tA a k) ∧ o = .int .u8 (tO a b k)) (fun _ _ i => 8 - (intOf i).toNat)
  case atStart => exact ⟨0, by omega, rfl, rfl, rfl⟩
  case round =>
    obtain ⟨k, hk, rfl, rfl, rfl⟩ := hrel
    by_cases c : k < 8
    · have e0 : decide ((k : Int) < 8) = true := by rw [decide_eq_true_iff]; omega
      have NA : Hid (tA a (k + 1) = xt (tA a k)) := rfl
      have NO : Hid (tO a b (k + 1) = if b / 2 ^ k % 2 = 1 then tO a b k ^^^ tA a k else tO a b k) := rfl
      have XT : Hid (xt (tA a k) = if 128 ≤ tA a k then (tA a k * 2 % 256) ^^^ 27 else tA a k * 2) := rfl
      have la := tA_lt HA.out k
      have lo := tO_lt (b := b) HA.out k
      have AN := and8_1 (b / 2 ^ k) (Nat.lt_of_le_of_lt (Nat.div_le_self _ _) hb)
      have X1 := xor8 (tO a b k) (tA a k) lo la
      have X2 := xor8 (tA a k * 2 % 256) 27 (by omega) (by omega)
      have cst : ((b / 2 ^ k : Nat) : Int) = (b : Int) / 2 ^ k := by simp
      rw [cst] at AN
      have hbit : b / 2 ^ k % 2 < 2 := by omega
      generalize b / 2 ^ k % 2 = bt at *
      clear cst
      generalize tA a k = x at *
      generalize tO a b k = o at *
      rw [show ((27 : Nat) : Int) = 27 from rfl, show ((x * 2 % 256 : Nat) : Int) = (x : Int) * 2 % 256 from by omega] at X2
      have k0 : (0 : Int) ≤ (k : Int) := by omega
      have k7 : (k : Int) ≤ 7 := by omega
      have x0 : (0 : Int) ≤ (x : Int) := by omega
      have x1 : (x : Int) < 256 := by omega
      by_cases cb : bt = 1
      · have tb : ((bt : Int) == 1) = true := by simp; omega
        by_cases cx : 128 ≤ x
        · have tx : decide ((128 : Int) ≤ (x : Int)) = true := by rw [decide_eq_true_iff]; omega
          go_wp2_with fail
          go_round
          case rel => exact ⟨k + 1, by omega, by go_num, by rw [NA.out, XT.out, if_pos cx], by rw [NO.out, if_pos cb]⟩
          case measure => simp [intOf]; omega
        · have tx : decide ((128 : Int) ≤ (x : Int)) = false := by rw [decide_eq_false_iff_not]; omega
          have x2 : (x : Int) < 128 := by omega
          go_wp2_with fail
          go_round
          case rel => exact ⟨k + 1, by omega, by go_num, by rw [NA.out, XT.out, if_neg cx]; simp, by rw [NO.out, if_pos cb]⟩
          case measure => simp [intOf]; omega
      · have tb : ((bt : Int) == 1) = false := by simp; omega
        by_cases cx : 128 ≤ x
        · have tx : decide ((128 : Int) ≤ (x : Int)) = true := by rw [decide_eq_true_iff]; omega
          go_wp2_with fail
          go_round
          case rel => exact ⟨k + 1, by omega, by go_num, by rw [NA.out, XT.out, if_pos cx], by rw [NO.out, if_neg cb]⟩
          case measure => simp [intOf]; omega
        · have tx : decide ((128 : Int) ≤ (x : Int)) = false := by rw [decide_eq_false_iff_not]; omega
          have x2 : (x : Int) < 128 := by omega
          go_wp2_with fail
          go_round
          case rel => exact ⟨k + 1, by omega, by go_num, by rw [NA.out, XT.out, if_neg cx]; simp, by rw [NO.out, if_neg cb]⟩
          case measure => simp [intOf]; omega
    · have e0 : decide ((k : Int) < 8) = false := by rw [decide_eq_false_iff_not]; omega
      obtain rfl : k = 8 := by omega
      go_wp2_with fail
      go_ret
      exact ⟨rfl, rfl⟩

/-- the 254th power, k squarings along. -/
def iS (b : Nat) : Nat → Nat
  | 0 => 1
  | k + 1 => if k < 7 then gm (gm (iS b k) (iS b k)) b else gm (iS b k) (iS b k)
def inv (b : Nat) : Nat := iS b 8
theorem iS_lt {b : Nat} (h : b < 256) : ∀ k, iS b k < 256
  | 0 => by simp [iS]
  | k + 1 => by
    simp only [iS]
    split
    · exact gm_lt (gm_lt (iS_lt h k))
    · exact gm_lt (iS_lt h k)
set_option maxRecDepth 100000 in
set_option maxHeartbeats 4000000 in
theorem rinverse_c (b : Nat) (w : World) (hb : b < 256) :
    Calls Tryd.prog 78 #[.int .u8 b] w fun e w' => e = .returned (.int .u8 (inv b)) ∧ w' = w := by
  have HB := Lib.hid hb
  have TM := Lib.hid (fun x y w (hx : x < 256) (hy : y < 256) => rtimes_c x y w hx hy)
  go_enter Tryd.func78, Tryd.ntmps78
  go_wp2_with fail
  go_loop [3, 4] (fun o i => ∃ k : Nat, k ≤ 8 ∧ i = .int .i64 (7 - (k : Int)) ∧ o = .int .u8 (iS b k)) (fun _ i => (intOf i + 1).toNat)
  case atStart => exact ⟨0, by omega, rfl, rfl⟩
  case round =>
    obtain ⟨k, hk, rfl, rfl⟩ := hrel
    have NX : Hid (iS b (k + 1) = if k < 7 then gm (gm (iS b k) (iS b k)) b else gm (iS b k) (iS b k)) := rfl
    have l1 := iS_lt HB.out k
    have l2 := gm_lt (b := iS b k) l1
    by_cases c : k < 8
    · generalize iS b k = x at *
      have T1 := Lib.hid (fun w => TM.out x x w l1 l1)
      have T2 := Lib.hid (fun w => TM.out (gm x x) b w l2 hb)
      generalize hq : gm x x = q at *
      have HQ := Lib.hid hq
      clear hq
      have kk : k = 0 ∨ k = 1 ∨ k = 2 ∨ k = 3 ∨ k = 4 ∨ k = 5 ∨ k = 6 ∨ k = 7 := by omega
      rcases kk with rfl | rfl | rfl | rfl | rfl | rfl | rfl | rfl
      · go_wp2_with fail
        refine (T1.out _).mono ?_
        rintro e w' ⟨rfl, rfl⟩
        go_wp2_with fail
        refine (T2.out _).mono ?_
        rintro e w' ⟨rfl, rfl⟩
        go_wp2_with fail
        go_round
        case rel => exact ⟨1, by omega, by go_num, by rw [show 1 = 0 + 1 from rfl, NX.out]; rfl⟩
        case measure => simp [intOf]
      · go_wp2_with fail
        refine (T1.out _).mono ?_
        rintro e w' ⟨rfl, rfl⟩
        go_wp2_with fail
        refine (T2.out _).mono ?_
        rintro e w' ⟨rfl, rfl⟩
        go_wp2_with fail
        go_round
        case rel => exact ⟨2, by omega, by go_num, by rw [show 2 = 1 + 1 from rfl, NX.out]; rfl⟩
        case measure => simp [intOf]
      · go_wp2_with fail
        refine (T1.out _).mono ?_
        rintro e w' ⟨rfl, rfl⟩
        go_wp2_with fail
        refine (T2.out _).mono ?_
        rintro e w' ⟨rfl, rfl⟩
        go_wp2_with fail
        go_round
        case rel => exact ⟨3, by omega, by go_num, by rw [show 3 = 2 + 1 from rfl, NX.out]; rfl⟩
        case measure => simp [intOf]
      · go_wp2_with fail
        refine (T1.out _).mono ?_
        rintro e w' ⟨rfl, rfl⟩
        go_wp2_with fail
        refine (T2.out _).mono ?_
        rintro e w' ⟨rfl, rfl⟩
        go_wp2_with fail
        go_round
        case rel => exact ⟨4, by omega, by go_num, by rw [show 4 = 3 + 1 from rfl, NX.out]; rfl⟩
        case measure => simp [intOf]
      · go_wp2_with fail
        refine (T1.out _).mono ?_
        rintro e w' ⟨rfl, rfl⟩
        go_wp2_with fail
        refine (T2.out _).mono ?_
        rintro e w' ⟨rfl, rfl⟩
        go_wp2_with fail
        go_round
        case rel => exact ⟨5, by omega, by go_num, by rw [show 5 = 4 + 1 from rfl, NX.out]; rfl⟩
        case measure => simp [intOf]
      · go_wp2_with fail
        refine (T1.out _).mono ?_
        rintro e w' ⟨rfl, rfl⟩
        go_wp2_with fail
        refine (T2.out _).mono ?_
        rintro e w' ⟨rfl, rfl⟩
        go_wp2_with fail
        go_round
        case rel => exact ⟨6, by omega, by go_num, by rw [show 6 = 5 + 1 from rfl, NX.out]; rfl⟩
        case measure => simp [intOf]
      · go_wp2_with fail
        refine (T1.out _).mono ?_
        rintro e w' ⟨rfl, rfl⟩
        go_wp2_with fail
        refine (T2.out _).mono ?_
        rintro e w' ⟨rfl, rfl⟩
        go_wp2_with fail
        go_round
        case rel => exact ⟨7, by omega, by go_num, by rw [show 7 = 6 + 1 from rfl, NX.out]; rfl⟩
        case measure => simp [intOf]
      · go_wp2_with fail
        refine (T1.out _).mono ?_
        rintro e w' ⟨rfl, rfl⟩
        go_wp2_with fail
        go_round
        case rel => exact ⟨8, by omega, by go_num, by rw [show 8 = 7 + 1 from rfl, NX.out]; rfl⟩
        case measure => simp [intOf]
    · obtain rfl : k = 8 := by omega
      go_wp2_with fail
      go_ret
      exact ⟨rfl, rfl⟩
end Go.Proofs.YtbbcgcfahaljoaaDoor.Ae
namespace Go.Proofs.YtbbcgcfahaljoaaDoor.Ae
open Go.RowKit By
set_option linter.unusedVariables false
set_option linter.unusedSimpArgs false

theorem and64_1 (a : Nat) (ha : a < 256) : bits BinOp.and IntKind.i64 (a : Int) 1 = ((a % 2 : Nat) : Int) := by
  have e : (BitVec.ofInt 64 (a : Int) &&& BitVec.ofInt 64 1).toNat = a % 2 := by
    rw [BitVec.toNat_and, BitVec.toNat_ofInt, BitVec.toNat_ofInt]
    have h : ((1 : Int) % ((2 ^ 64 : Nat) : Int)).toNat = 2 ^ 1 - 1 := by decide
    rw [h, Nat.and_two_pow_sub_one_eq_mod]
    omega
  show IntKind.i64.wrap ((BitVec.ofInt 64 (a : Int) &&& BitVec.ofInt 64 1).toNat : Int) = _
  rw [e]
  exact wrap_in (by omega) (by omega)
theorem xor64_01 (a b : Nat) (ha : a < 2) (hb : b < 2) : bits BinOp.xor IntKind.i64 (a : Int) (b : Int) = (((a + b) % 2 : Nat) : Int) := by
  have h1 : a = 0 ∨ a = 1 := by omega
  have h2 : b = 0 ∨ b = 1 := by omega
  rcases h1 with rfl | rfl <;> rcases h2 with rfl | rfl <;> decide
def kk (j : Nat) : Nat := [0, 4, 5, 6, 7].getD j 0
theorem kk_lt : ∀ j, j < 5 → kk j < 8 := by decide
/-- bit i of S, with j of the five bits taken in. -/
def sx (v i : Nat) : Nat → Nat
  | 0 => 99 / 2 ^ i % 2
  | j + 1 => (sx v i j + v / 2 ^ ((i + kk j) % 8) % 2) % 2
def so (v : Nat) : Nat → Nat
  | 0 => 0
  | i + 1 => so v i + sx v i 5 * 2 ^ i
/-- S. -/
def sbox (b : Nat) : Nat := so (inv b) 8
theorem sx_lt (v i : Nat) : ∀ j, sx v i j < 2
  | 0 => by simp only [sx]; omega
  | j + 1 => by simp only [sx]; omega
theorem so_lt (v : Nat) : ∀ i, so v i < 2 ^ i
  | 0 => by simp [so]
  | i + 1 => by
    have a := so_lt v i
    have b := sx_lt v i 5
    have c : sx v i 5 * 2 ^ i ≤ 1 * 2 ^ i := Nat.mul_le_mul_right _ (by omega)
    simp only [so]
    rw [Nat.pow_succ]
    omega
theorem sbox_lt (b : Nat) : sbox b < 256 := so_lt (inv b) 8
theorem so_or (o bt i : Nat) (hi : i < 8) (ho : o < 2 ^ i) (hb : bt < 2) : bits BinOp.or IntKind.u8 (o : Int) ((bt * 2 ^ i : Nat) : Int) = ((o + bt * 2 ^ i : Nat) : Int) := by
  have p : 2 ^ i ≤ 2 ^ 7 := Nat.pow_le_pow_right (by omega) (by omega)
  have c : bt * 2 ^ i ≤ 1 * 2 ^ i := Nat.mul_le_mul_right _ (by omega)
  rw [or8 _ _ (by omega) (by omega)]
  congr 1
  rw [Nat.or_comm, Nat.mul_comm bt, ← Nat.two_pow_add_eq_or_of_lt ho]
  omega
theorem kk_cells (w : World) (j : Nat) (hj : j < 5) : (w.alloc (.cells #[.int .i64 0, .int .i64 4, .int .i64 5, .int .i64 6, .int .i64 7] 3)).cell? ⟨w.heap.size, j, none⟩ = some (.int .i64 (kk j)) := by
  rw [World.cell?_alloc_mark w _ _ (0, 0) j]
  match j, hj with
  | 0, _ => rfl
  | 1, _ => rfl
  | 2, _ => rfl
  | 3, _ => rfl
  | 4, _ => rfl

set_option maxRecDepth 100000 in
set_option maxHeartbeats 4000000 in
theorem rsub_c (b : Nat) (w : World) (hb : b < 256) :
    Calls Tryd.prog 70 #[.int .u8 b] w fun e w' => e = .returned (.int .u8 (sbox b)) ∧ Below w.heap.size w w' := by
  have IV := Lib.hid (rinverse_c b w hb)
  have SE : Hid (sbox b = so (inv b) 8) := rfl
  have VL : inv b < 256 := iS_lt hb 8
  go_enter Tryd.func70, Tryd.ntmps70
  go_wp2_with fail
  refine IV.out.mono ?_
  rintro e w' ⟨rfl, rfl⟩
  generalize inv b = v at *
  go_wp2_with fail
  go_loopw [4, 5] (fun o i wr => ∃ k : Nat, k ≤ 8 ∧ i = .int .i64 k ∧ o = .int .u8 (so v k) ∧ Below w'.heap.size w' wr) (fun _ i _ => 8 - (intOf i).toNat)
  case atStart => exact ⟨0, by omega, rfl, rfl, Below.refl _ _⟩
  case round =>
    obtain ⟨k, hk, rfl, rfl, hb0⟩ := hrel
    rename World => wr
    have HB := Lib.hid hb0
    clear hb0
    by_cases c : k < 8
    · have e0 : decide ((k : Int) < 8) = true := by rw [decide_eq_true_iff]; omega
      have NO : Hid (so v (k + 1) = so v k + sx v k 5 * 2 ^ k) := rfl
      have AN := and64_1 (99 / 2 ^ k) (Nat.lt_of_le_of_lt (Nat.div_le_self _ _) (by omega))
      rw [show ((99 / 2 ^ k : Nat) : Int) = (99 : Int) / 2 ^ k from by simp, show 99 / 2 ^ k % 2 = sx v k 0 from rfl] at AN
      have k0 : (0 : Int) ≤ (k : Int) := by omega
      have k7 : (k : Int) ≤ 7 := by omega
      go_wp2_with fail
      clear AN
      go_loop [6, 21] (fun bt x => ∃ j : Nat, j ≤ 5 ∧ x = .int .i64 j ∧ bt = .int .i64 (sx v k j)) (fun _ x => 5 - (intOf x).toNat)
      case atStart => exact ⟨0, by omega, rfl, rfl⟩
      case round =>
        obtain ⟨j, hj, rfl, rfl⟩ := hrel
        by_cases cj : j < 5
        · have e1 : decide ((j : Int) < 5) = true := by rw [decide_eq_true_iff]; omega
          have KC := kk_cells wr j cj
          have KL := kk_lt j cj
          have NX : Hid (sx v k (j + 1) = (sx v k j + v / 2 ^ ((k + kk j) % 8) % 2) % 2) := rfl
          have SL := sx_lt v k j
          generalize kk j = q at *
          have T8 : ((k : Int) + (q : Int)).tmod 8 = (((k + q) % 8 : Nat) : Int) := by rw [Int.tmod_eq_emod_of_nonneg (by omega)]; omega
          have sl : (k + q) % 8 ≤ 7 := by omega
          generalize (k + q) % 8 = s at *
          have A1 := and8_1 (v / 2 ^ s) (Nat.lt_of_le_of_lt (Nat.div_le_self _ _) VL)
          have XO := xor64_01 (sx v k j) (v / 2 ^ s % 2) SL (by omega)
          have hbit : v / 2 ^ s % 2 < 2 := by omega
          rw [show ((v / 2 ^ s : Nat) : Int) = (v : Int) / 2 ^ s from by simp] at A1
          generalize v / 2 ^ s % 2 = bt at *
          have HNX := Lib.hid NX.out
          clear NX
          rw [← HNX.out] at XO
          generalize sx v k j = y at *
          have j0 : (0 : Int) ≤ (j : Int) := by omega
          have j1 : (j : Int) ≤ 4 := by omega
          have q0 : (q : Int) < 8 := by omega
          have s0 : (0 : Int) ≤ (s : Int) := by omega
          have s1 : (s : Int) ≤ 7 := by omega
          have b0 : (bt : Int) < 2 := by omega
          go_wp2_with fail
          go_round
          case rel => exact ⟨j + 1, by omega, by go_num, rfl⟩
          case measure => simp [intOf]; omega
        · have e1 : decide ((j : Int) < 5) = false := by rw [decide_eq_false_iff_not]; omega
          obtain rfl : j = 5 := by omega
          have SL := sx_lt v k 5
          have OR := so_or (so v k) (sx v k 5) k c (so_lt v k) SL
          rw [← NO.out] at OR
          have HB1 := Lib.hid (bstep HB.out (balloc (brefl wr) (.cells #[.int .i64 0, .int .i64 4, .int .i64 5, .int .i64 6, .int .i64 7] 3)))
          have p : 2 ^ k ≤ 2 ^ 7 := Nat.pow_le_pow_right (by omega) (by omega)
          have M : ((sx v k 5 : Nat) : Int) * 2 ^ k % 256 = ((sx v k 5 * 2 ^ k : Nat) : Int) := by
            have c1 : sx v k 5 * 2 ^ k ≤ 1 * 2 ^ k := Nat.mul_le_mul_right _ (by omega)
            rw [show ((sx v k 5 : Nat) : Int) * 2 ^ k = ((sx v k 5 * 2 ^ k : Nat) : Int) from by simp]
            omega
          clear p NO
          generalize sx v k 5 * 2 ^ k = z at *
          generalize sx v k 5 = y at *
          have y0 : (y : Int) < 2 := by omega
          go_wp2_with fail
          exact ⟨⟨k + 1, by omega, by go_num, rfl, HB1.out⟩, by simp [intOf]; omega⟩
    · have e0 : decide ((k : Int) < 8) = false := by rw [decide_eq_false_iff_not]; omega
      obtain rfl : k = 8 := by omega
      go_wp2_with fail
      go_ret
      exact ⟨by rw [SE.out]; rfl, HB.out⟩
end Go.Proofs.YtbbcgcfahaljoaaDoor.Ae
namespace Go.Proofs.YtbbcgcfahaljoaaDoor.Ae
open Go.RowKit By
set_option linter.unusedVariables false
set_option linter.unusedSimpArgs false

/-- a slice of the call's own that holds n bytes, some. -/
theorem OwnB {w : World} {base : Nat} {v : Value} {f : Nat → Nat} {n : Nat} (h : Own w base v (bl f n)) (hn : 0 < n) (hf : ∀ i, f i < 256) : ∃ g cap, v = .slice (some ⟨g, 0, none⟩) n cap ∧ base ≤ g ∧ Bs w g 0 n f ∧ n ≤ cap ∧ cap ≤ 9223372036854775807 :=
  h.bsF (fun e => by
    subst e
    have := h.2
    rcases this with ⟨_, h0⟩ | ⟨g, cap, cur, e, _⟩
    · rw [bl_len] at h0; omega
    · cases e) hf
def xr (f g : Nat → Nat) (i : Nat) : Nat := f i ^^^ g i
theorem xr_lt {f g : Nat → Nat} (hf : ∀ i, f i < 256) (hg : ∀ i, g i < 256) (i : Nat) : xr f g i < 256 := lt_xor8 (hf i) (hg i)

set_option maxRecDepth 100000 in
set_option maxHeartbeats 4000000 in
theorem rxor_c (b1 o1 n1 c1 b2 o2 n2 c2 : Nat) (f g : Nat → Nat) (w : World) (B1 : Bs w b1 o1 16 f) (B2 : Bs w b2 o2 16 g) (h1 : 16 ≤ n1) (h2 : 16 ≤ n2) (m1 : n1 ≤ 9223372036854775807) (m2 : n2 ≤ 9223372036854775807) :
    Calls Tryd.prog 59 #[.slice (some ⟨b1, o1, none⟩) n1 c1, .slice (some ⟨b2, o2, none⟩) n2 c2] w fun e w' => (∃ v, e = .returned v ∧ Own w' w.heap.size v (bl (xr f g) 16)) ∧ Below w.heap.size w w' := by
  have HB1 := Lib.hid B1
  have HB2 := Lib.hid B2
  have L1 := B1.1
  have L2 := B2.1
  clear B1 B2
  have i1 : (16 : Int) ≤ (n1 : Int) := by omega
  have i2 : (16 : Int) ≤ (n2 : Int) := by omega
  have i3 : (n1 : Int) ≤ 9223372036854775807 := by omega
  have i4 : (n2 : Int) ≤ 9223372036854775807 := by omega
  go_enter Tryd.func59, Tryd.ntmps59
  go_wp2_with fail
  go_loopw [5, 6] (fun v i wr => ∃ k : Nat, k ≤ 16 ∧ i = .int .i64 k ∧ Own wr w.heap.size v (bl (xr f g) k) ∧ Below w.heap.size w wr) (fun _ i _ => 16 - (intOf i).toNat)
  case atStart => exact ⟨0, by omega, rfl, Own.nil _ _, Below.refl _ _⟩
  case round =>
    obtain ⟨k, hk, rfl, own, hb⟩ := hrel
    rename World => wr
    by_cases c : k < 16
    · have e0 : decide ((k : Int) < 16) = true := by rw [decide_eq_true_iff]; omega
      have g1 := (HB1.out.below hb).2.2 k c
      have g2 := (HB2.out.below hb).2.2 k c
      have s1 := hb.size
      have f1 := HB1.out.2.1 k
      have f2 := HB2.out.2.1 k
      have XO := xor8 (f k) (g k) f1 f2
      obtain ⟨v2, w2, hr, ho, hb2, hs2⟩ := app1 (w := wr.drew) (World.ownsRow.drew own) (f k ^^^ g k) hb.size (by rw [bl_len]; omega) 26
      have HR : Hid ((Builtin.append_ #[26, 26] 26 #[_, .slice (some ⟨wr.heap.size, 0, none⟩) 1 1]).run Tryd.prog (wr.drew.alloc (.cells #[.int .u8 ((f k ^^^ g k : Nat) : Int)] 5)) = .ok v2 w2) := Lib.hid hr
      have HO : Hid (Own w2 w.heap.size v2 (bl (xr f g) (k + 1))) := Lib.hid (by rw [bl_succ]; exact ho)
      have HB3 := Lib.hid ((hb.trans (bdrew1 _ _)).trans hb2)
      have HC2 : Hid (w2.cell? ⟨b1, o1 + k, none⟩ = some (.int .u8 (f k : Int)) ∧ w2.cell? ⟨b2, o2 + k, none⟩ = some (.int .u8 (g k : Int))) := Lib.hid ⟨(hb2.cell (p := ⟨b1, o1 + k, none⟩) L1).trans g1, (hb2.cell (p := ⟨b2, o2 + k, none⟩) L2).trans g2⟩
      have KP : Hid (∀ w' : World, Below wr.heap.size wr w' → w'.cell? ⟨b1, o1 + k, none⟩ = some (.int .u8 (f k : Int)) ∧ w'.cell? ⟨b2, o2 + k, none⟩ = some (.int .u8 (g k : Int))) := Lib.hid fun w' D => ⟨(D.cell (p := ⟨b1, o1 + k, none⟩) (Nat.lt_of_lt_of_le L1 s1)).trans g1, (D.cell (p := ⟨b2, o2 + k, none⟩) (Nat.lt_of_lt_of_le L2 s1)).trans g2⟩
      clear hr ho hb2 hs2 own hb
      generalize f k ^^^ g k = z at *
      generalize f k = x at *
      generalize g k = y at *
      have c0 : (0 : Int) ≤ (k : Int) := by omega
      have c1 : (k : Int) < 16 := by omega
      have c2' : (k : Int) < (n1 : Int) := by omega
      have c3 : (k : Int) < (n2 : Int) := by omega
      go_wp2_with fail
      go_region_held3 (fun w' => w'.cell? ⟨b1, o1 + k, none⟩ = some (.int .u8 (x : Int)) ∧ w'.cell? ⟨b2, o2 + k, none⟩ = some (.int .u8 (y : Int)))
        (first | exact HC2.out | (refine KP.out _ ?_; repeat (first | exact brefl _ | refine balloc ?_ _ | refine bdr ?_)))
        (first | (refine step_append_eq rfl (.tmp 11) (.tmp 21) 26 rfl _ _ v2 w2 rfl rfl HR.out ?_))
      go_wp2_with fail
      go_roundw
      case rel => exact ⟨k + 1, by omega, by go_num, HO.out, HB3.out⟩
      case measure => simp [intOf]; omega
    · have e0 : decide ((k : Int) < 16) = false := by rw [decide_eq_false_iff_not]; omega
      obtain rfl : k = 16 := by omega
      have HO := Lib.hid own
      have HB := Lib.hid hb
      clear own hb
      go_wp2_with fail
      go_ret
      exact ⟨⟨_, rfl, HO.out⟩, HB.out⟩

/-- shifted by one bit, byte i. -/
def dbl (f : Nat → Nat) (i : Nat) : Nat := if i < 15 then (f i * 2 % 256) ||| (f (i + 1) / 128) else if 128 ≤ f 0 then (f i * 2 % 256) ^^^ 135 else f i * 2 % 256
theorem dbl_lt {f : Nat → Nat} (hf : ∀ i, f i < 256) (i : Nat) : dbl f i < 256 := by
  unfold dbl
  split
  · exact Nat.or_lt_two_pow (n := 8) (by omega) (by have := hf (i + 1); omega)
  · split
    · exact lt_xor8 (by omega) (by omega)
    · omega

set_option maxRecDepth 100000 in
set_option maxHeartbeats 4000000 in
theorem rdoubled_c (b o n cap : Nat) (f : Nat → Nat) (w : World) (B : Bs w b o 16 f) (h : 16 ≤ n) (m : n ≤ 9223372036854775807) :
    Calls Tryd.prog 57 #[.slice (some ⟨b, o, none⟩) n cap] w fun e w' => (∃ v, e = .returned v ∧ Own w' w.heap.size v (bl (dbl f) 16)) ∧ Below w.heap.size w w' := by
  have HB := Lib.hid B
  clear B
  have i1 : (16 : Int) ≤ (n : Int) := by omega
  have i3 : (n : Int) ≤ 9223372036854775807 := by omega
  go_enter Tryd.func57, Tryd.ntmps57
  go_wp2_with fail
  go_loopw [3, 4] (fun v i wr => ∃ k : Nat, k ≤ 16 ∧ i = .int .i64 k ∧ Own wr w.heap.size v (bl (dbl f) k) ∧ Below w.heap.size w wr) (fun _ i _ => 16 - (intOf i).toNat)
  case atStart => exact ⟨0, by omega, rfl, Own.nil _ _, Below.refl _ _⟩
  case round =>
    obtain ⟨k, hk, rfl, own, hb⟩ := hrel
    rename World => wr
    by_cases c : k < 16
    · have e0 : decide ((k : Int) < 16) = true := by rw [decide_eq_true_iff]; omega
      have g1 := (HB.out.below hb).2.2 k c
      have f1 := HB.out.2.1 k
      obtain ⟨v2, w2, hr, ho, hb2, hs2⟩ := app1 own (dbl f k) hb.size (by rw [bl_len]; omega) 26
      have HR := Lib.hid hr
      have HO : Hid (Own w2 w.heap.size v2 (bl (dbl f) (k + 1))) := Lib.hid (by rw [bl_succ]; exact ho)
      have HB3 := Lib.hid (hb.trans hb2)
      have D : Hid (dbl f k = if k < 15 then (f k * 2 % 256) ||| (f (k + 1) / 128) else if 128 ≤ f 0 then (f k * 2 % 256) ^^^ 135 else f k * 2 % 256) := rfl
      have c0 : (0 : Int) ≤ (k : Int) := by omega
      have c1 : (k : Int) < 16 := by omega
      have c2' : (k : Int) < (n : Int) := by omega
      by_cases c15 : k < 15
      · have e1 : decide ((k : Int) < 15) = true := by rw [decide_eq_true_iff]; omega
        have e2 : ((k : Int) == 15) = false := by simp; omega
        have g2 := (HB.out.below hb).2.2 (k + 1) (by omega)
        have f2 := HB.out.2.1 (k + 1)
        have OR := or8 (f k * 2 % 256) (f (k + 1) / 128) (by omega) (by omega)
        have DE := D.out
        rw [if_pos c15] at DE
        rw [← DE] at OR
        have HDE := Lib.hid DE
        clear DE D hr ho hb2 hs2 own hb
        rw [show ((f k * 2 % 256 : Nat) : Int) = (f k : Int) * 2 % 256 from by omega, show ((f (k + 1) / 128 : Nat) : Int) = (f (k + 1) : Int) / 128 from by omega] at OR
        generalize f (k + 1) = y at *
        generalize f k = x at *
        generalize dbl f k = z at *
        have c3 : (k : Int) + 1 < (n : Int) := by omega
        go_wp2_with (first | (at_builtin; refine wpList_append_eq rfl _ _ 26 rfl _ _ v2 w2 rfl rfl HR.out ?_))
        go_roundw
        case rel => exact ⟨k + 1, by omega, by go_num, HO.out, HB3.out⟩
        case measure => simp [intOf]; omega
      · obtain rfl : k = 15 := by omega
        have e1 : decide (((15 : Nat) : Int) < 15) = false := by decide
        have g2 := (HB.out.below hb).2.2 0 (by omega)
        rw [Nat.add_zero] at g2
        have f2 := HB.out.2.1 0
        have DE := D.out
        rw [if_neg c15] at DE
        have XO := xor8 (f 15 * 2 % 256) 135 (by omega) (by omega)
        rw [show ((135 : Nat) : Int) = 135 from rfl, show ((f 15 * 2 % 256 : Nat) : Int) = (f 15 : Int) * 2 % 256 from by omega] at XO
        by_cases cx : 128 ≤ f 0
        · rw [if_pos cx] at DE
          rw [← DE] at XO
          have tx : decide ((128 : Int) ≤ (f 0 : Int)) = true := by rw [decide_eq_true_iff]; omega
          have HDE := Lib.hid DE
          clear DE D hr ho hb2 hs2 own hb
          generalize f 15 = x at *
          generalize f 0 = y at *
          generalize dbl f 15 = z at *
          go_wp2_with (first | (at_builtin; refine wpList_append_eq rfl _ _ 26 rfl _ _ v2 w2 rfl rfl HR.out ?_))
          go_roundw
          case rel => exact ⟨16, by omega, by go_num, HO.out, HB3.out⟩
          case measure => simp [intOf]
        · rw [if_neg cx] at DE
          have tx : decide ((128 : Int) ≤ (f 0 : Int)) = false := by rw [decide_eq_false_iff_not]; omega
          have DI : ((dbl f 15 : Nat) : Int) = (f 15 : Int) * 2 % 256 := by rw [DE]; omega
          rw [DI] at HR
          clear DE DI D XO hr ho hb2 hs2 own hb
          generalize f 15 = x at *
          generalize f 0 = y at *
          go_wp2_with (first | (at_builtin; refine wpList_append_eq rfl _ _ 26 rfl _ _ v2 w2 rfl rfl HR.out ?_))
          go_roundw
          case rel => exact ⟨16, by omega, by go_num, HO.out, HB3.out⟩
          case measure => simp [intOf]
    · have e0 : decide ((k : Int) < 16) = false := by rw [decide_eq_false_iff_not]; omega
      obtain rfl : k = 16 := by omega
      have HO := Lib.hid own
      have HB2 := Lib.hid hb
      clear own hb
      go_wp2_with fail
      go_ret
      exact ⟨⟨_, rfl, HO.out⟩, HB2.out⟩
end Go.Proofs.YtbbcgcfahaljoaaDoor.Ae
namespace Go.Proofs.YtbbcgcfahaljoaaDoor.Ae
open Go.RowKit By
set_option linter.unusedVariables false
set_option linter.unusedSimpArgs false

theorem own_below {w w' : World} {base : Nat} {v : Value} {l : List Nat} (h : Own w base v l) (k : Below w.heap.size w w') : Own w' base v l :=
  ⟨h.1, h.2.elim Or.inl (fun ⟨g, cap, cur, hv, hg, hh, r⟩ => Or.inr ⟨g, cap, cur, hv, hg, (k.block g (Array.getElem?_eq_some_iff.1 hh).1).trans hh, r⟩)⟩
/-- each byte through S, the rows moved. -/
def mv (s : Nat → Nat) (i : Nat) : Nat := sbox (s (i % 4 + 4 * ((i / 4 + i % 4) % 4)))
theorem mv_lt (s : Nat → Nat) (i : Nat) : mv s i < 256 := sbox_lt _

set_option maxRecDepth 100000 in
set_option maxHeartbeats 4000000 in
theorem rmoved_c (b o n cap : Nat) (f : Nat → Nat) (w : World) (B : Bs w b o 16 f) (h : 16 ≤ n) (m : n ≤ 9223372036854775807) :
    Calls Tryd.prog 72 #[.slice (some ⟨b, o, none⟩) n cap] w fun e w' => (∃ v, e = .returned v ∧ Own w' w.heap.size v (bl (mv f) 16)) ∧ Below w.heap.size w w' := by
  have HB := Lib.hid B
  have SB := Lib.hid (fun x w (hx : x < 256) => rsub_c x w hx)
  clear B
  have i1 : (16 : Int) ≤ (n : Int) := by omega
  have i3 : (n : Int) ≤ 9223372036854775807 := by omega
  go_enter Tryd.func72, Tryd.ntmps72
  go_wp2_with fail
  go_loopw [3, 4] (fun v i wr => ∃ k : Nat, k ≤ 16 ∧ i = .int .i64 k ∧ Own wr w.heap.size v (bl (mv f) k) ∧ Below w.heap.size w wr) (fun _ i _ => 16 - (intOf i).toNat)
  case atStart => exact ⟨0, by omega, rfl, Own.nil _ _, Below.refl _ _⟩
  case round =>
    obtain ⟨k, hk, rfl, own, hb⟩ := hrel
    rename World => wr
    by_cases c : k < 16
    · have e0 : decide ((k : Int) < 16) = true := by rw [decide_eq_true_iff]; omega
      have il : k % 4 + 4 * ((k / 4 + k % 4) % 4) < 16 := by omega
      have g1 := (HB.out.below hb).2.2 _ il
      have f1 := HB.out.2.1 (k % 4 + 4 * ((k / 4 + k % 4) % 4))
      have MV : Hid (mv f k = sbox (f (k % 4 + 4 * ((k / 4 + k % 4) % 4)))) := rfl
      have OW := Lib.hid own
      have B0 := Lib.hid hb
      clear own hb
      have d1 : (k : Int).tmod 4 = ((k % 4 : Nat) : Int) := by rw [Int.tmod_eq_emod_of_nonneg (by omega)]; omega
      have d2 : (k : Int).tdiv 4 = ((k / 4 : Nat) : Int) := by rw [Int.tdiv_eq_ediv_of_nonneg (by omega)]; omega
      have d3 : (((k / 4 : Nat) : Int) + ((k % 4 : Nat) : Int)).tmod 4 = (((k / 4 + k % 4) % 4 : Nat) : Int) := by rw [Int.tmod_eq_emod_of_nonneg (by omega)]; omega
      have r1 : k % 4 ≤ 3 := by omega
      have r2 : k / 4 ≤ 3 := by omega
      have r3 : (k / 4 + k % 4) % 4 ≤ 3 := by omega
      have c0 : (0 : Int) ≤ (k : Int) := by omega
      have c1 : (k : Int) < 16 := by omega
      generalize f (k % 4 + 4 * ((k / 4 + k % 4) % 4)) = x at *
      generalize (k / 4 + k % 4) % 4 = q at *
      generalize k / 4 = cc at *
      generalize k % 4 = rr at *
      go_wp2_with fail
      refine (SB.out x _ f1).mono ?_
      rintro e w1 ⟨rfl, hb⟩
      have B1 := Lib.hid (B0.out.trans (hb.mono B0.out.size))
      obtain ⟨v2, w2, hr, ho, hb2, hs2⟩ := app1 (own_below OW.out hb) (sbox x) B1.out.size (by rw [bl_len]; omega) 26
      have HR := Lib.hid hr
      have HO : Hid (Own w2 w.heap.size v2 (bl (mv f) (k + 1))) := Lib.hid (by rw [bl_succ, MV.out]; exact ho)
      have B2 := Lib.hid (B1.out.trans hb2)
      clear hr ho hb2 hs2 hb
      go_wp2_with (at_builtin; refine wpList_append_eq rfl _ _ 26 rfl _ _ v2 w2 rfl rfl HR.out ?_)
      go_roundw
      case rel => exact ⟨k + 1, by omega, by go_num, HO.out, B2.out⟩
      case measure => simp [intOf]; omega
    · have e0 : decide ((k : Int) < 16) = false := by rw [decide_eq_false_iff_not]; omega
      obtain rfl : k = 16 := by omega
      have HO := Lib.hid own
      have HB2 := Lib.hid hb
      clear own hb
      go_wp2_with fail
      go_ret
      exact ⟨⟨_, rfl, HO.out⟩, HB2.out⟩

def row (j : Nat) : Nat := [2, 3, 1, 1].getD j 0
theorem row_lt : ∀ j, j < 4 → row j < 256 := by decide
/-- the columns: byte i, with k of the four products taken in. -/
def mxs (s : Nat → Nat) (i : Nat) : Nat → Nat
  | 0 => 0
  | k + 1 => mxs s i k ^^^ gm (s (4 * (i / 4) + k)) (row ((k + 4 - i % 4) % 4))
def mx (s : Nat → Nat) (i : Nat) : Nat := mxs s i 4
theorem mxs_lt {s : Nat → Nat} (hs : ∀ i, s i < 256) (i : Nat) : ∀ k, mxs s i k < 256
  | 0 => by simp [mxs]
  | k + 1 => lt_xor8 (mxs_lt hs i k) (gm_lt (hs _))
theorem mx_lt {s : Nat → Nat} (hs : ∀ i, s i < 256) (i : Nat) : mx s i < 256 := mxs_lt hs i 4
theorem row_cells (w : World) (j : Nat) (hj : j < 4) : (w.alloc (.cells #[.int .u8 2, .int .u8 3, .int .u8 1, .int .u8 1] 5)).cell? ⟨w.heap.size, j, none⟩ = some (.int .u8 (row j)) := by
  rw [World.cell?_alloc_mark w _ _ (0, 0) j]
  match j, hj with
  | 0, _ => rfl
  | 1, _ => rfl
  | 2, _ => rfl
  | 3, _ => rfl

set_option maxRecDepth 100000 in
set_option maxHeartbeats 4000000 in
theorem rmixed_c (b o n cap : Nat) (f : Nat → Nat) (w : World) (B : Bs w b o 16 f) (h : 16 ≤ n) (m : n ≤ 9223372036854775807) :
    Calls Tryd.prog 73 #[.slice (some ⟨b, o, none⟩) n cap] w fun e w' => (∃ v, e = .returned v ∧ Own w' w.heap.size v (bl (mx f) 16)) ∧ Below w.heap.size w w' := by
  have TM := Lib.hid (fun x y w (hx : x < 256) (hy : y < 256) => rtimes_c x y w hx hy)
  have W1 := Lib.hid (balloc (brefl w) (.cells #[.int .u8 2, .int .u8 3, .int .u8 1, .int .u8 1] 5))
  have HB := Lib.hid (B.below W1.out)
  have RC := Lib.hid (row_cells w)
  have SZ : w.heap.size < (w.alloc (.cells #[.int .u8 2, .int .u8 3, .int .u8 1, .int .u8 1] 5)).heap.size := by simp
  clear B
  have i1 : (16 : Int) ≤ (n : Int) := by omega
  have i3 : (n : Int) ≤ 9223372036854775807 := by omega
  go_enter Tryd.func73, Tryd.ntmps73
  go_wp2_with fail
  generalize w.alloc (.cells #[.int .u8 2, .int .u8 3, .int .u8 1, .int .u8 1] 5) = W0 at *
  go_loopw [4, 5] (fun v i wr => ∃ c : Nat, c ≤ 4 ∧ i = .int .i64 c ∧ Own wr W0.heap.size v (bl (mx f) (4 * c)) ∧ Below W0.heap.size W0 wr) (fun _ i _ => 4 - (intOf i).toNat)
  case atStart => exact ⟨0, by omega, rfl, Own.nil _ _, Below.refl _ _⟩
  case round =>
    obtain ⟨c, hc, rfl, own, hb⟩ := hrel
    rename World => wr
    have OW := Lib.hid own
    have B0 := Lib.hid hb
    clear own hb
    by_cases cc : c < 4
    · have e0 : decide ((c : Int) < 4) = true := by rw [decide_eq_true_iff]; omega
      go_wp2_with fail
      clear e0
      go_loopw [4, 6] (fun v i w2 => ∃ r : Nat, r ≤ 4 ∧ i = .int .i64 r ∧ Own w2 W0.heap.size v (bl (mx f) (4 * c + r)) ∧ Below W0.heap.size W0 w2) (fun _ i _ => 4 - (intOf i).toNat)
      case atStart => exact ⟨0, by omega, rfl, OW.out, B0.out⟩
      case round =>
        clear OW B0
        obtain ⟨r, hr, rfl, own, hb⟩ := hrel
        rename World => w2
        have OW := Lib.hid own
        have B0 := Lib.hid hb
        clear own hb
        by_cases cr : r < 4
        · have e0 : decide ((r : Int) < 4) = true := by rw [decide_eq_true_iff]; omega
          go_wp2_with fail
          clear e0
          go_loopw [7, 8] (fun x i w3 => ∃ k q : Nat, k ≤ 4 ∧ i = .int .i64 k ∧ x = .int .u8 (mxs f (4 * c + r) k) ∧ w3 = w2.drewN q) (fun _ i _ => 4 - (intOf i).toNat)
          case atStart => exact ⟨0, 0, by omega, rfl, rfl, rfl⟩
          case round =>
            obtain ⟨k, q, hk, rfl, rfl, hw3⟩ := hrel
            rename World => w3
            have D3 : Below w2.heap.size w2 w3 := by rw [hw3]; exact bdrew (brefl w2) q
            have HW3 := Lib.hid hw3
            clear hw3
            by_cases ck : k < 4
            · have e0 : decide ((k : Int) < 4) = true := by rw [decide_eq_true_iff]; omega
              have B3 := Lib.hid (B0.out.trans (D3.mono B0.out.size))
              have g1 := (HB.out.below B3.out).2.2 (4 * c + k) (by omega)
              have f1 := HB.out.2.1 (4 * c + k)
              have ql : (k + 4 - r) % 4 < 4 := by omega
              have g2 : w3.cell? ⟨w.heap.size, (k + 4 - r) % 4, none⟩ = some (.int .u8 (row ((k + 4 - r) % 4))) := (B3.out.cell (p := ⟨w.heap.size, (k + 4 - r) % 4, none⟩) SZ).trans (RC.out _ ql)
              have rl := row_lt _ ql
              have NX : Hid (mxs f (4 * c + r) (k + 1) = mxs f (4 * c + r) k ^^^ gm (f (4 * c + k)) (row ((k + 4 - r) % 4))) := Lib.hid (by
                show mxs f (4 * c + r) k ^^^ gm (f (4 * ((4 * c + r) / 4) + k)) (row ((k + 4 - (4 * c + r) % 4) % 4)) = _
                rw [show (4 * c + r) / 4 = c from by omega, show (4 * c + r) % 4 = r from by omega])
              have ml := mxs_lt HB.out.2.1 (4 * c + r) k
              have d1 : ((k : Int) - (r : Int) + 4).tmod 4 = (((k + 4 - r) % 4 : Nat) : Int) := by rw [Int.tmod_eq_emod_of_nonneg (by omega)]; omega
              have TC := Lib.hid (fun w => TM.out (f (4 * c + k)) (row ((k + 4 - r) % 4)) w f1 rl)
              have XO := xor8 (mxs f (4 * c + r) k) (gm (f (4 * c + k)) (row ((k + 4 - r) % 4))) ml (gm_lt f1)
              rw [← NX.out] at XO
              obtain ⟨z, hz⟩ : ∃ z, mxs f (4 * c + r) (k + 1) = z := ⟨_, rfl⟩
              rw [hz] at XO
              have HZ := Lib.hid hz
              clear hz NX
              generalize gm (f (4 * c + k)) (row ((k + 4 - r) % 4)) = p at *
              generalize mxs f (4 * c + r) k = x at *
              generalize f (4 * c + k) = y at *
              generalize row ((k + 4 - r) % 4) = rw' at *
              generalize (k + 4 - r) % 4 = s at *
              have W1 : IntKind.i64.wrap (4 * (c : Int) + (k : Int)) = 4 * (c : Int) + (k : Int) := wrap_in (by omega) (by omega)
              have W2 : IntKind.i64.wrap (4 * (c : Int)) = 4 * (c : Int) := wrap_in (by omega) (by omega)
              have W3 : IntKind.i64.wrap ((k : Int) - (r : Int)) = (k : Int) - (r : Int) := wrap_in (by omega) (by omega)
              have W4 : IntKind.i64.wrap ((k : Int) - (r : Int) + 4) = (k : Int) - (r : Int) + 4 := wrap_in (by omega) (by omega)
              have c0 : (0 : Int) ≤ (c : Int) := by omega
              have c1 : (c : Int) ≤ 3 := by omega
              have r0 : (0 : Int) ≤ (r : Int) := by omega
              have r1 : (r : Int) ≤ 3 := by omega
              have k0 : (0 : Int) ≤ (k : Int) := by omega
              have k1 : (k : Int) ≤ 3 := by omega
              have s1 : (s : Int) < 4 := by omega
              have in1 : 4 * (c : Int) + (k : Int) < (n : Int) := by omega
              go_wp2_with fail
              go_quiet ((go_at_call 71; with_reducible exact Calls.quiet_of_same (TC.out _)))
              go_wp2_with fail
              go_roundw
              case rel => exact ⟨k + 1, q + nq, by omega, by go_num, by rw [HZ.out], by rw [HW3.out]; simp⟩
              case measure => simp [intOf]; omega
            · have e0 : decide ((k : Int) < 4) = false := by rw [decide_eq_false_iff_not]; omega
              obtain rfl : k = 4 := by omega
              have MX : mxs f (4 * c + r) 4 = mx f (4 * c + r) := rfl
              rw [MX]
              obtain ⟨v4, w4, hr4, ho, hb4, hs4⟩ := app1 (own_below OW.out D3) (mx f (4 * c + r)) (Nat.le_trans B0.out.size D3.size) (by rw [bl_len]; omega) 26
              have HR := Lib.hid hr4
              have HO : Hid (Own w4 W0.heap.size v4 (bl (mx f) (4 * c + (r + 1)))) := Lib.hid (by rw [← Nat.add_assoc, bl_succ]; exact ho)
              have B4 := Lib.hid ((B0.out.trans (D3.mono B0.out.size)).trans hb4)
              clear hr4 ho hb4 hs4 D3
              go_wp2_with (at_builtin; refine wpList_append_eq rfl _ _ 26 rfl _ _ v4 w4 rfl rfl HR.out ?_)
              go_roundw
              case rel => exact ⟨r + 1, by omega, by go_num, HO.out, B4.out⟩
              case measure => simp [intOf]; omega
        · have e0 : decide ((r : Int) < 4) = false := by rw [decide_eq_false_iff_not]; omega
          obtain rfl : r = 4 := by omega
          go_wp2_with fail
          go_roundw
          case rel => exact ⟨c + 1, by omega, by go_num, by rw [Nat.mul_add]; exact OW.out, B0.out⟩
          case measure => simp [intOf]; omega
    · have e0 : decide ((c : Int) < 4) = false := by rw [decide_eq_false_iff_not]; omega
      obtain rfl : c = 4 := by omega
      have OZ := Lib.hid (OW.out.le W1.out.size)
      have BZ := Lib.hid (W1.out.trans (B0.out.mono W1.out.size))
      go_wp2_with fail
      go_ret
      exact ⟨⟨_, rfl, OZ.out⟩, BZ.out⟩
end Go.Proofs.YtbbcgcfahaljoaaDoor.Ae
namespace Go.Proofs.YtbbcgcfahaljoaaDoor.Ae
open Go.RowKit By
set_option linter.unusedVariables false
set_option linter.unusedSimpArgs false

/-- 1, 2, 4, .. in the field: ahead of word t. -/
def pw : Nat → Nat
  | 0 => 1
  | t + 1 => if t % 4 = 0 then gm (pw t) 2 else pw t
/-- what the word behind sixteen bytes and t words takes in, byte k. -/
def kt (W : Nat → Nat) (t k : Nat) : Nat :=
  if t % 4 = 0 then (if k = 0 then sbox (W (4 * t + 13)) ^^^ pw t else if k = 1 then sbox (W (4 * t + 14)) else if k = 2 then sbox (W (4 * t + 15)) else sbox (W (4 * t + 12))) else W (4 * t + 12 + k)
/-- the round keys' bytes, as far as t words are there. -/
def kX (K : Nat → Nat) : Nat → Nat → Nat
  | 0 => K
  | t + 1 => fun j => if j < 16 + 4 * t then kX K t j else kX K t (j - 16) ^^^ kt (kX K t) t (j - (16 + 4 * t))
theorem pw_lt : ∀ t, pw t < 256
  | 0 => by simp [pw]
  | t + 1 => by
    simp only [pw]
    split
    · exact gm_lt (pw_lt t)
    · exact pw_lt t
theorem kt_lt {W : Nat → Nat} (h : ∀ i, W i < 256) (t k : Nat) : kt W t k < 256 := by
  unfold kt
  split
  · split
    · exact lt_xor8 (sbox_lt _) (pw_lt t)
    · split
      · exact sbox_lt _
      · split
        · exact sbox_lt _
        · exact sbox_lt _
  · exact h _
theorem kX_lt {K : Nat → Nat} (h : ∀ i, K i < 256) : ∀ t i, kX K t i < 256
  | 0, i => h i
  | t + 1, i => by
    show (if i < 16 + 4 * t then _ else _) < _
    split
    · exact kX_lt h t i
    · exact lt_xor8 (kX_lt h t _) (kt_lt (kX_lt h t) t _)
theorem kX_old (K : Nat → Nat) (t j : Nat) (h : j < 16 + 4 * t) : kX K (t + 1) j = kX K t j := by
  show (if j < 16 + 4 * t then _ else _) = _
  rw [if_pos h]
theorem kX_new (K : Nat → Nat) (t k : Nat) (h : k < 4) : kX K (t + 1) (16 + 4 * t + k) = kX K (t + 1) (4 * t + k) ^^^ kt (kX K t) t k := by
  rw [kX_old K t (4 * t + k) (by omega)]
  show (if 16 + 4 * t + k < 16 + 4 * t then _ else _) = _
  rw [if_neg (by omega), show 16 + 4 * t + k - 16 = 4 * t + k from by omega, show 16 + 4 * t + k - (16 + 4 * t) = k from by omega]

/-- app1, and what it leaves alone. -/
theorem app1g {w : World} {base : Nat} {v : Value} {l : List Nat} (h : Own w base v l) (x : Nat) (hb : base ≤ w.heap.size) (hn : l.length + 1 ≤ 140737488355328) (ty : TypeId) :
    ∃ v' w', (Builtin.append_ #[26, 26] ty #[v, .slice (some ⟨w.heap.size, 0, none⟩) 1 1]).run Tryd.prog (w.alloc (.cells #[.int .u8 (x : Int)] 5)) = .ok v' w' ∧ Own w' base v' (l ++ [x]) ∧ Below base w w' ∧ (∀ k, k < w.heap.size → some k ≠ v.ownBlock → w'.heap[k]? = w.heap[k]?) ∧ (v'.ownBlock = v.ownBlock ∨ v'.ownBlock = some (w.heap.size + 1)) := by
  obtain ⟨i, hi, hz, hs, hby⟩ := info_parts info_u8
  obtain ⟨v', w', hr, ho, hg, _, hv⟩ := run_append_own_at (P := Tryd.prog) (w.alloc (.cells #[.int .u8 (x : Int)] 5)) base 26 ty 5 i (.int .u8 0) 1 1 Tryd.underlying26 hi hz hs hby rfl (by decide) v l.length (cl l) (World.ownsRow.alloc h _) ⟨w.heap.size, 0, none⟩ 1 1 (cl [x]) rfl
    (by intro j u hj; cases j with | zero => (simp [cl] at hj; subst hj; simp [Addr.add, go_sem]) | succ j => simp [cl] at hj) (cl_one _) (by unfold maxLen; omega) (by omega) (by simp; omega)
  have hB : Below base w (w.alloc (.cells #[.int .u8 (x : Int)] 5)) := (Below.refl base w).alloc hb _
  have hB2 := hB.grown hg (by simp; omega) h.block
  have ha := Below.block ((Below.refl w.heap.size w).alloc (Nat.le_refl _) (.cells #[.int .u8 (x : Int)] 5))
  refine ⟨v', w', hr, ?_, hB2, fun k hk hne => (hg.block k (by simp; omega) hne).trans (ha k hk), by simpa using hv⟩
  unfold Own
  rw [cl_app, List.length_append]
  exact ho
/-- a slice of four bytes, laid anew. -/
theorem bs4 (w : World) (f : Nat → Nat) (hf : ∀ i, f i < 256) : Bs (w.alloc (.cells #[.int .u8 (f 0 : Int), .int .u8 (f 1 : Int), .int .u8 (f 2 : Int), .int .u8 (f 3 : Int)] 5)) w.heap.size 0 4 f :=
  ⟨by simp, hf, fun i hi => by
    rw [Nat.zero_add, World.cell?_alloc_mark w _ _ (0, 0) i]
    match i, hi with
    | 0, _ => rfl
    | 1, _ => rfl
    | 2, _ => rfl
    | 3, _ => rfl⟩
theorem bs_keep {w w' : World} {b off n : Nat} {f : Nat → Nat} (h : Bs w b off n f) (hk : w'.heap[b]? = w.heap[b]?) (hs : w.heap.size ≤ w'.heap.size) : Bs w' b off n f :=
  ⟨Nat.lt_of_lt_of_le h.1 hs, h.2.1, fun i hi => (World.cell?_of_block (a := ⟨b, off + i, none⟩) hk).trans (h.2.2 i hi)⟩

set_option maxRecDepth 100000 in
set_option maxHeartbeats 8000000 in
theorem rkeys_c (b o cap : Nat) (K : Nat → Nat) (w : World) (B : Bs w b o 16 K) :
    Calls Tryd.prog 56 #[.slice (some ⟨b, o, none⟩) 16 cap] w fun e w' => (∃ v, e = .returned v ∧ Own w' w.heap.size v (bl (kX K 40) 176)) ∧ Below w.heap.size w w' := by
  have HK := Lib.hid B.2.1
  have SB := Lib.hid (fun x w (hx : x < 256) => rsub_c x w hx)
  have TM := Lib.hid (fun x y w (hx : x < 256) (hy : y < 256) => rtimes_c x y w hx hy)
  obtain ⟨v0, w0, r0, o0, b0, s0⟩ := appB (Own.nil w w.heap.size) B cap (Nat.le_refl _) (by simp) 26
  rw [List.nil_append] at o0
  have R0 := Lib.hid r0
  have O0 : Hid (Own w0 w.heap.size v0 (bl (kX K 0) 16)) := Lib.hid o0
  have B0 := Lib.hid b0
  clear B r0 o0 b0 s0
  go_enter Tryd.func56, Tryd.ntmps56
  go_wp2_with (at_builtin; refine wpList_append_eq rfl _ _ 26 rfl _ _ v0 w0 rfl rfl R0.out ?_)
  clear R0
  go_loopw [3, 4, 5] (fun v p i wr => ∃ t : Nat, t ≤ 40 ∧ i = .int .i64 ((16 + 4 * t : Nat) : Int) ∧ p = .int .u8 (pw t) ∧ Own wr w.heap.size v (bl (kX K t) (16 + 4 * t)) ∧ Below w.heap.size w wr) (fun _ _ i _ => 176 - (intOf i).toNat)
  case atStart => exact ⟨0, by omega, rfl, rfl, O0.out, B0.out⟩
  case round =>
    clear O0 B0
    obtain ⟨t, ht, rfl, rfl, own, hb⟩ := hrel
    rename World => wr
    by_cases c : t < 40
    · have e0 : decide (16 + 4 * (t : Int) < 176) = true := by rw [decide_eq_true_iff]; omega
      obtain ⟨gw, cw, rfl, gb, BW, hc1, hc2⟩ := OwnB own (by omega) (kX_lt HK.out t)
      have BP := BW.part (12 + 4 * t) 4 (by omega)
      obtain ⟨v1, w1, r1, o1, b1, s1⟩ := appB (Own.nil wr wr.heap.size) BP (cw - (12 + 4 * t)) (Nat.le_refl _) (by simp) 26
      rw [List.nil_append] at o1
      obtain ⟨gt1, ct1, rfl, tb1, BT1, tc1, tc2⟩ := OwnB o1 (by omega) (fun i => kX_lt HK.out t _)
      have R1 : Hid ((Builtin.append_ #[26, 26] 26 #[.slice none 0 0, .slice (some ⟨gw, 16 + 4 * t - 4, none⟩) (16 + 4 * t - (16 + 4 * t - 4)) (cw - (16 + 4 * t - 4))]).run Tryd.prog wr = .ok (.slice (some ⟨gt1, 0, none⟩) 4 ct1) w1) := Lib.hid (by
        rw [show 16 + 4 * t - (16 + 4 * t - 4) = 4 from by omega, show cw - (16 + 4 * t - 4) = cw - (12 + 4 * t) from by omega, show 16 + 4 * t - 4 = 0 + (12 + 4 * t) from by omega]
        exact r1)
      have tt0 : (0 : Int) ≤ (t : Int) := by omega
      have tt1 : (t : Int) ≤ 39 := by omega
      have cwi : 16 + 4 * (t : Int) ≤ (cw : Int) := by omega
      have cwj : (cw : Int) ≤ 9223372036854775807 := by omega
      have cne : ¬ cw = 12 + 4 * t := by omega
      by_cases c4 : t % 4 = 0
      · obtain ⟨r4, m41⟩ : ∃ r : Int, (16 + 4 * (t : Int)) % 16 = r := ⟨_, rfl⟩
        have m42 : 4 * (t : Int) % 16 = r4 := by omega
        have e4 : (r4 == 0) = true := by simp; omega
        have PW : Hid (pw (t + 1) = gm (pw t) 2) := Lib.hid (if_pos c4)
        have W4 := BW.below b1
        have gwl := BW.1
        have KP : Hid (∀ w' : World, Below w1.heap.size w1 w' → w'.cell? ⟨gw, 4 * t + 13, none⟩ = some (.int .u8 (kX K t (4 * t + 13) : Int)) ∧ w'.cell? ⟨gw, 4 * t + 14, none⟩ = some (.int .u8 (kX K t (4 * t + 14) : Int)) ∧ w'.cell? ⟨gw, 4 * t + 15, none⟩ = some (.int .u8 (kX K t (4 * t + 15) : Int)) ∧ w'.cell? ⟨gw, 4 * t + 12, none⟩ = some (.int .u8 (kX K t (4 * t + 12) : Int))) := Lib.hid fun w' D => by
          have h := (W4.below D).2.2
          have h1 := h (4 * t + 13) (by omega)
          have h2 := h (4 * t + 14) (by omega)
          have h3 := h (4 * t + 15) (by omega)
          have h0 := h (4 * t + 12) (by omega)
          rw [Nat.zero_add] at h1 h2 h3 h0
          exact ⟨h1, h2, h3, h0⟩
        have S1 := Lib.hid (fun w => SB.out (kX K t (4 * t + 13)) w (kX_lt HK.out t _))
        have S2 := Lib.hid (fun w => SB.out (kX K t (4 * t + 14)) w (kX_lt HK.out t _))
        have S3 := Lib.hid (fun w => SB.out (kX K t (4 * t + 15)) w (kX_lt HK.out t _))
        have S0 := Lib.hid (fun w => SB.out (kX K t (4 * t + 12)) w (kX_lt HK.out t _))
        have TC : Hid (∀ w, Calls Tryd.prog 71 #[.int .u8 (pw t : Int), .int .u8 2] w fun e w' => e = .returned (.int .u8 (gm (pw t) 2 : Int)) ∧ w' = w) := Lib.hid (fun w => TM.out (pw t) 2 w (pw_lt t) (by omega))
        have T0 : Hid (kt (kX K t) t 0 = sbox (kX K t (4 * t + 13)) ^^^ pw t) := Lib.hid (by unfold kt; rw [if_pos c4, if_pos rfl])
        have T1 : Hid (kt (kX K t) t 1 = sbox (kX K t (4 * t + 14))) := Lib.hid (by unfold kt; rw [if_pos c4, if_neg (by decide), if_pos rfl])
        have T2 : Hid (kt (kX K t) t 2 = sbox (kX K t (4 * t + 15))) := Lib.hid (by unfold kt; rw [if_pos c4, if_neg (by decide), if_neg (by decide), if_pos rfl])
        have T3 : Hid (kt (kX K t) t 3 = sbox (kX K t (4 * t + 12))) := Lib.hid (by unfold kt; rw [if_pos c4, if_neg (by decide), if_neg (by decide), if_neg (by decide)])
        have XO := xor8 (sbox (kX K t (4 * t + 13))) (pw t) (sbox_lt _) (pw_lt t)
        rw [← T0.out] at XO
        have LT := Lib.hid (kt_lt (kX_lt HK.out t) t)
        have OK1 := Lib.hid (own_below own b1)
        have BX1 := Lib.hid (hb.trans (b1.mono hb.size))
        have OLD : Hid (bl (kX K (t + 1)) (16 + 4 * t) = bl (kX K t) (16 + 4 * t)) := Lib.hid (bl_congr (fun i hi => kX_old K t i hi))
        have GW1 : Hid (gw < w1.heap.size) := Lib.hid (by omega)
        clear own hb o1 b1 BT1 BW BP r1 s1 W4 gwl
        go_wp2_with (at_builtin; refine wpList_append_eq rfl _ _ 26 rfl _ _ (.slice (some ⟨gt1, 0, none⟩) 4 ct1) w1 rfl rfl R1.out ?_)
        rw [m41]
        have tn1 : (16 + 4 * (t : Int) - 3).toNat = 4 * t + 13 := by omega
        have tn2 : (16 + 4 * (t : Int) - 2).toNat = 4 * t + 14 := by omega
        have tn3 : (16 + 4 * (t : Int) - 1).toNat = 4 * t + 15 := by omega
        have tn0 : (16 + 4 * (t : Int) - 4).toNat = 4 * t + 12 := by omega
        have V1 : IntKind.i64.wrap (16 + 4 * (t : Int) - 3) = 16 + 4 * (t : Int) - 3 := wrap_in (by omega) (by omega)
        have V2 : IntKind.i64.wrap (16 + 4 * (t : Int) - 2) = 16 + 4 * (t : Int) - 2 := wrap_in (by omega) (by omega)
        have V3 : IntKind.i64.wrap (16 + 4 * (t : Int) - 1) = 16 + 4 * (t : Int) - 1 := wrap_in (by omega) (by omega)
        have V0 : IntKind.i64.wrap (16 + 4 * (t : Int) - 4) = 16 + 4 * (t : Int) - 4 := wrap_in (by omega) (by omega)
        have b3a : (3 : Int) ≤ 16 + 4 * (t : Int) := by omega
        have b3b : (0 : Int) ≤ 16 + 4 * (t : Int) - 3 := by omega
        have b3c : 16 + 4 * (t : Int) - 3 < 16 + 4 * (t : Int) := by omega
        have b2a : (2 : Int) ≤ 16 + 4 * (t : Int) := by omega
        have b2b : (0 : Int) ≤ 16 + 4 * (t : Int) - 2 := by omega
        have b2c : 16 + 4 * (t : Int) - 2 < 16 + 4 * (t : Int) := by omega
        have b1a : (1 : Int) ≤ 16 + 4 * (t : Int) := by omega
        have b1b : (0 : Int) ≤ 16 + 4 * (t : Int) - 1 := by omega
        have b1c : 16 + 4 * (t : Int) - 1 < 16 + 4 * (t : Int) := by omega
        have b4a : (4 : Int) ≤ 16 + 4 * (t : Int) := by omega
        have b4b : (0 : Int) ≤ 16 + 4 * (t : Int) - 4 := by omega
        have b4c : 16 + 4 * (t : Int) - 4 < 16 + 4 * (t : Int) := by omega
        have TE1 := T1.out
        have TE2 := T2.out
        have TE3 := T3.out
        generalize hq1 : sbox (kX K t (4 * t + 13)) = q1 at *
        generalize hq2 : sbox (kX K t (4 * t + 14)) = q2 at *
        generalize hq3 : sbox (kX K t (4 * t + 15)) = q3 at *
        generalize hq0 : sbox (kX K t (4 * t + 12)) = q0 at *
        clear hq0 hq1 hq2 hq3
        have hb0 : Below w1.heap.size w1 w1.drew := (brefl w1).drew
        have hS := KP.out _ hb0
        go_region_held3 (fun w' => w'.cell? ⟨gw, 4 * t + 13, none⟩ = some (.int .u8 (kX K t (4 * t + 13) : Int)) ∧ w'.cell? ⟨gw, 4 * t + 14, none⟩ = some (.int .u8 (kX K t (4 * t + 14) : Int)) ∧ w'.cell? ⟨gw, 4 * t + 15, none⟩ = some (.int .u8 (kX K t (4 * t + 15) : Int)) ∧ w'.cell? ⟨gw, 4 * t + 12, none⟩ = some (.int .u8 (kX K t (4 * t + 12) : Int)))
          (first | exact KP.out _ (by assumption) | exact KP.out _ (balloc (by assumption) _))
          (first | (go_at_call 70; with_reducible refine (S1.out _).mono ?_; rintro e w' ⟨rfl, hb⟩; replace hb := bstep (a := w1) (by assumption) hb) | (go_at_call 70; with_reducible refine (S2.out _).mono ?_; rintro e w' ⟨rfl, hb⟩; replace hb := bstep (a := w1) (by assumption) hb) | (go_at_call 70; with_reducible refine (S3.out _).mono ?_; rintro e w' ⟨rfl, hb⟩; replace hb := bstep (a := w1) (by assumption) hb) | (go_at_call 70; with_reducible refine (S0.out _).mono ?_; rintro e w' ⟨rfl, hb⟩; replace hb := bstep (a := w1) (by assumption) hb))
        all_goals
          clear tn1 tn2 tn3 tn0 V1 V2 V3 V0 b1a b1b b1c b2a b2b b2c b3a b3b b3c b4a b4b b4c
          have Z := bs4 w' (kt (kX K t) t) LT.out
          rw [TE1, TE2, TE3] at Z
          have BT := Lib.hid Z
          have D := balloc hb (.cells #[.int .u8 (kt (kX K t) t 0 : Int), .int .u8 (q2 : Int), .int .u8 (q3 : Int), .int .u8 (q0 : Int)] 5)
          have ON : Hid (Own (w'.alloc (.cells #[.int .u8 (kt (kX K t) t 0 : Int), .int .u8 (q2 : Int), .int .u8 (q3 : Int), .int .u8 (q0 : Int)] 5)) w.heap.size (.slice (some ⟨gw, 0, none⟩) (16 + 4 * t) cw) (bl (kX K (t + 1)) (16 + 4 * t + 0))) := Lib.hid (by
            show Own _ _ _ (bl (kX K (t + 1)) (16 + 4 * t))
            rw [OLD.out]
            exact own_below OK1.out D)
          have NE : Hid ((Value.slice (some ⟨gw, 0, none⟩) (16 + 4 * t) cw).ownBlock ≠ some w'.heap.size) := Lib.hid (fun e => by
            have e2 : gw = w'.heap.size := Option.some.inj e
            have := GW1.out
            have := hb.size
            omega)
          have BX := Lib.hid (BX1.out.trans (D.mono BX1.out.size))
          clear D Z OK1 BX1 hb KP S1 S2 S3 S0 T0 T1 T2 T3 TE1 TE2 TE3 XO GW1 OLD
          go_wp2_with fail
          refine (TC.out _).mono ?_
          rintro e w8 ⟨rfl, rfl⟩
          go_wp2_with fail
          clear hS TC R1
          generalize w'.alloc (.cells #[.int .u8 (kt (kX K t) t 0 : Int), .int .u8 (q2 : Int), .int .u8 (q3 : Int), .int .u8 (q0 : Int)] 5) = W7 at *
          generalize w'.heap.size = gt2 at *
          generalize kt (kX K t) t 0 = z0 at *
          generalize kX K t (4 * t + 13) = y1 at *
          generalize kX K t (4 * t + 14) = y2 at *
          generalize kX K t (4 * t + 15) = y3 at *
          generalize kX K t (4 * t + 12) = y0 at *
          go_loopw [3, 7] (fun v i w5 => ∃ k : Nat, k ≤ 4 ∧ i = .int .i64 k ∧ Own w5 w.heap.size v (bl (kX K (t + 1)) (16 + 4 * t + k)) ∧ Bs w5 gt2 0 4 (kt (kX K t) t) ∧ v.ownBlock ≠ some gt2 ∧ Below w.heap.size w w5) (fun _ i _ => 4 - (intOf i).toNat)
          case atStart => exact ⟨0, by omega, rfl, ON.out, BT.out, NE.out, BX.out⟩
          case round =>
            clear ON BT BX NE
            obtain ⟨k, hk, rfl, own, bt, ne, hb⟩ := hrel
            rename World => w5
            have HB5 := Lib.hid hb
            have BT5 := Lib.hid bt
            by_cases ck : k < 4
            · have e1 : decide ((k : Int) < 4) = true := by rw [decide_eq_true_iff]; omega
              obtain ⟨gv, cv, rfl, gvb, BV, vc1, vc2⟩ := OwnB own (by omega) (kX_lt HK.out (t + 1))
              have g1 := BV.2.2 (4 * t + k) (by omega)
              have g2 := bt.2.2 k ck
              rw [Nat.zero_add] at g1 g2
              have x1 := kX_lt HK.out (t + 1) (4 * t + k)
              have x2 := kt_lt (kX_lt HK.out t) t k
              have NX : Hid (kX K (t + 1) (16 + 4 * t + k) = kX K (t + 1) (4 * t + k) ^^^ kt (kX K t) t k) := Lib.hid (kX_new K t k ck)
              have XO := xor8 _ _ x1 x2
              rw [← NX.out] at XO
              obtain ⟨v2, w6, hr, ho, hb2, hk2, hv2⟩ := app1g (w := w5.drew) (World.ownsRow.drew own) (kX K (t + 1) (16 + 4 * t + k)) hb.size (by rw [bl_len]; omega) 26
              have HR : Hid ((Builtin.append_ #[26, 26] 26 #[.slice (some ⟨gv, 0, none⟩) (16 + 4 * t + k) cv, .slice (some ⟨w5.heap.size, 0, none⟩) 1 1]).run Tryd.prog (w5.drew.alloc (.cells #[.int .u8 ((kX K (t + 1) (16 + 4 * t + k) : Nat) : Int)] 5)) = .ok v2 w6) := Lib.hid hr
              have HO : Hid (Own w6 w.heap.size v2 (bl (kX K (t + 1)) (16 + 4 * t + (k + 1)))) := Lib.hid (by rw [← Nat.add_assoc, bl_succ]; exact ho)
              have HT : Hid (Bs w6 gt2 0 4 (kt (kX K t) t)) := Lib.hid (bs_keep bt (hk2 gt2 bt.1 (fun e => ne e.symm)) hb2.size)
              have HN : Hid (v2.ownBlock ≠ some gt2) := Lib.hid (fun e => by
                rcases hv2 with h | h
                · rw [h] at e; exact ne e
                · rw [h] at e
                  have := bt.1
                  have e2 : w5.heap.size + 1 = gt2 := Option.some.inj e
                  omega)
              have HB6 := Lib.hid ((hb.trans (bdrew1 _ _)).trans hb2)
              clear hr ho hb2 hk2 hv2 own bt hb BV ne NX
              generalize kX K (t + 1) (16 + 4 * t + k) = z at *
              generalize kX K (t + 1) (4 * t + k) = x at *
              generalize kt (kX K t) t k = y at *
              have k0 : (0 : Int) ≤ (k : Int) := by omega
              have k1 : (k : Int) ≤ 3 := by omega
              have V1 : IntKind.i64.wrap (16 + 4 * (t : Int) - 16) = 4 * (t : Int) := by rw [wrap_in (by omega) (by omega)]; omega
              have V2 : IntKind.i64.wrap (4 * (t : Int) + (k : Int)) = 4 * (t : Int) + (k : Int) := wrap_in (by omega) (by omega)
              have in1 : 4 * (t : Int) + (k : Int) < 16 + 4 * (t : Int) + (k : Int) := by omega
              have in2 : (k : Int) < 4 := by omega
              have in3 : (0 : Int) ≤ 4 * (t : Int) + (k : Int) := by omega
              go_wp2_with fail
              have tn : (4 * (t : Int) + (k : Int)).toNat = 4 * t + k := by omega
              go_region_law (refine step_append_eq rfl (.tmp 58) (.tmp 71) 26 rfl _ _ v2 w6 rfl rfl HR.out ?_)
              all_goals
                go_wp2_with fail
                go_roundw
                case rel => exact ⟨k + 1, by omega, by go_num, HO.out, HT.out, HN.out, HB6.out⟩
                case measure => simp [intOf]; omega
            · have e1 : decide ((k : Int) < 4) = false := by rw [decide_eq_false_iff_not]; omega
              obtain rfl : k = 4 := by omega
              clear bt hb
              have OW := Lib.hid own
              clear own
              go_wp2_with fail
              go_roundw
              case rel => exact ⟨t + 1, by omega, by rw [show 16 + 4 * (t + 1) = 16 + 4 * t + 4 from by omega]; go_num, by rw [PW.out], by rw [show 16 + 4 * (t + 1) = 16 + 4 * t + 4 from by omega]; exact OW.out, HB5.out⟩
              case measure => simp [intOf]; omega
      · obtain ⟨r4, m41⟩ : ∃ r : Int, (16 + 4 * (t : Int)) % 16 = r := ⟨_, rfl⟩
        have m42 : 4 * (t : Int) % 16 = r4 := by omega
        have e4 : (r4 == 0) = false := by simp; omega
        have PW : Hid (pw (t + 1) = pw t) := Lib.hid (if_neg c4)
        have ON : Hid (Own w1 w.heap.size (.slice (some ⟨gw, 0, none⟩) (16 + 4 * t) cw) (bl (kX K (t + 1)) (16 + 4 * t + 0))) := Lib.hid (by
          have e : bl (kX K (t + 1)) (16 + 4 * t) = bl (kX K t) (16 + 4 * t) := bl_congr (fun i hi => kX_old K t i hi)
          show Own _ _ _ (bl (kX K (t + 1)) (16 + 4 * t))
          rw [e]
          exact own_below own b1)
        have BT : Hid (Bs w1 gt1 0 4 (kt (kX K t) t)) := Lib.hid (by
          have e : kt (kX K t) t = fun i => kX K t (12 + 4 * t + i) := by
            funext i
            unfold kt
            rw [if_neg c4, show 4 * t + 12 + i = 12 + 4 * t + i from by omega]
          rw [e]
          exact BT1)
        have NE : Hid ((Value.slice (some ⟨gw, 0, none⟩) (16 + 4 * t) cw).ownBlock ≠ some gt1) := Lib.hid (fun e => by
          have e2 : gw = gt1 := Option.some.inj e
          have := BW.1
          omega)
        have BX := Lib.hid (hb.trans (b1.mono hb.size))
        clear own hb o1 b1 BT1 BW BP r1 s1
        go_wp2_with (at_builtin; refine wpList_append_eq rfl _ _ 26 rfl _ _ (.slice (some ⟨gt1, 0, none⟩) 4 ct1) w1 rfl rfl R1.out ?_)
        rw [m41]
        go_loopw [3, 7] (fun v i w5 => ∃ k : Nat, k ≤ 4 ∧ i = .int .i64 k ∧ Own w5 w.heap.size v (bl (kX K (t + 1)) (16 + 4 * t + k)) ∧ Bs w5 gt1 0 4 (kt (kX K t) t) ∧ v.ownBlock ≠ some gt1 ∧ Below w.heap.size w w5) (fun _ i _ => 4 - (intOf i).toNat)
        case atStart => exact ⟨0, by omega, rfl, ON.out, BT.out, NE.out, BX.out⟩
        case round =>
          clear ON BT BX NE
          obtain ⟨k, hk, rfl, own, bt, ne, hb⟩ := hrel
          rename World => w5
          have HB5 := Lib.hid hb
          have BT5 := Lib.hid bt
          by_cases ck : k < 4
          · have e1 : decide ((k : Int) < 4) = true := by rw [decide_eq_true_iff]; omega
            obtain ⟨gv, cv, rfl, gvb, BV, vc1, vc2⟩ := OwnB own (by omega) (kX_lt HK.out (t + 1))
            have g1 := BV.2.2 (4 * t + k) (by omega)
            have g2 := bt.2.2 k ck
            rw [Nat.zero_add] at g1 g2
            have x1 := kX_lt HK.out (t + 1) (4 * t + k)
            have x2 := kt_lt (kX_lt HK.out t) t k
            have NX : Hid (kX K (t + 1) (16 + 4 * t + k) = kX K (t + 1) (4 * t + k) ^^^ kt (kX K t) t k) := Lib.hid (kX_new K t k ck)
            have XO := xor8 _ _ x1 x2
            rw [← NX.out] at XO
            obtain ⟨v2, w6, hr, ho, hb2, hk2, hv2⟩ := app1g (w := w5.drew) (World.ownsRow.drew own) (kX K (t + 1) (16 + 4 * t + k)) hb.size (by rw [bl_len]; omega) 26
            have HR : Hid ((Builtin.append_ #[26, 26] 26 #[.slice (some ⟨gv, 0, none⟩) (16 + 4 * t + k) cv, .slice (some ⟨w5.heap.size, 0, none⟩) 1 1]).run Tryd.prog (w5.drew.alloc (.cells #[.int .u8 ((kX K (t + 1) (16 + 4 * t + k) : Nat) : Int)] 5)) = .ok v2 w6) := Lib.hid hr
            have HO : Hid (Own w6 w.heap.size v2 (bl (kX K (t + 1)) (16 + 4 * t + (k + 1)))) := Lib.hid (by rw [← Nat.add_assoc, bl_succ]; exact ho)
            have HT : Hid (Bs w6 gt1 0 4 (kt (kX K t) t)) := Lib.hid (bs_keep bt (hk2 gt1 bt.1 (fun e => ne e.symm)) hb2.size)
            have HN : Hid (v2.ownBlock ≠ some gt1) := Lib.hid (fun e => by
              rcases hv2 with h | h
              · rw [h] at e; exact ne e
              · rw [h] at e
                have := bt.1
                have e2 : w5.heap.size + 1 = gt1 := Option.some.inj e
                omega)
            have HB6 := Lib.hid ((hb.trans (bdrew1 _ _)).trans hb2)
            clear hr ho hb2 hk2 hv2 own bt hb BV ne NX
            generalize kX K (t + 1) (16 + 4 * t + k) = z at *
            generalize kX K (t + 1) (4 * t + k) = x at *
            generalize kt (kX K t) t k = y at *
            have k0 : (0 : Int) ≤ (k : Int) := by omega
            have k1 : (k : Int) ≤ 3 := by omega
            have V1 : IntKind.i64.wrap (16 + 4 * (t : Int) - 16) = 4 * (t : Int) := by rw [wrap_in (by omega) (by omega)]; omega
            have V2 : IntKind.i64.wrap (4 * (t : Int) + (k : Int)) = 4 * (t : Int) + (k : Int) := wrap_in (by omega) (by omega)
            have in1 : 4 * (t : Int) + (k : Int) < 16 + 4 * (t : Int) + (k : Int) := by omega
            have in2 : (k : Int) < 4 := by omega
            have in3 : (0 : Int) ≤ 4 * (t : Int) + (k : Int) := by omega
            go_wp2_with fail
            have tn : (4 * (t : Int) + (k : Int)).toNat = 4 * t + k := by omega
            go_region_law (refine step_append_eq rfl (.tmp 58) (.tmp 71) 26 rfl _ _ v2 w6 rfl rfl HR.out ?_)
            all_goals
              go_wp2_with fail
              go_roundw
              case rel => exact ⟨k + 1, by omega, by go_num, HO.out, HT.out, HN.out, HB6.out⟩
              case measure => simp [intOf]; omega
          · have e1 : decide ((k : Int) < 4) = false := by rw [decide_eq_false_iff_not]; omega
            obtain rfl : k = 4 := by omega
            clear bt hb
            have OW := Lib.hid own
            clear own
            go_wp2_with fail
            go_roundw
            case rel => exact ⟨t + 1, by omega, by rw [show 16 + 4 * (t + 1) = 16 + 4 * t + 4 from by omega]; go_num, by rw [PW.out], by rw [show 16 + 4 * (t + 1) = 16 + 4 * t + 4 from by omega]; exact OW.out, HB5.out⟩
            case measure => simp [intOf]; omega
    · have e0 : decide (16 + 4 * (t : Int) < 176) = false := by rw [decide_eq_false_iff_not]; omega
      obtain rfl : t = 40 := by omega
      have OW := Lib.hid own
      have HB := Lib.hid hb
      clear own hb
      go_wp2_with fail
      go_ret
      exact ⟨⟨_, rfl, OW.out⟩, HB.out⟩
end Go.Proofs.YtbbcgcfahaljoaaDoor.Ae
