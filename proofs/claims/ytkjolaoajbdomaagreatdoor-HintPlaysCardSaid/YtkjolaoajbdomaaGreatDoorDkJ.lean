/-
  Calls that come in, and rows of them; rows of bools.
  Conditions: none.
-/
import Derived.SizedLaws
import Derived.Deep.SlicePairs
import Derived.Test.YtkjolaoajbdomaaGreatDoorDkI
namespace Go.Proofs.YtkjolaoajbdomaaGreatDoor.Dk
open Go.RowKit Go.ChangeShapes Go.WideShapes Go.ChangeAt Go.Joins Go.Maps By Ct
set_option linter.unusedVariables false
set_option linter.unusedSimpArgs false

/-- a call. -/
structure Ac where
  k : Int
  n : Int
  p : Int
  a : ByteArray
  b : ByteArray
  dat : List Nat
def ac0 : Ac := ⟨0, 0, 0, ByteArray.empty, ByteArray.empty, []⟩
def avs (x : Ac) (dv : Value) : List Value := [.int .i64 x.k, .int .i64 x.n, .int .i64 x.p, .string x.a, .string x.b, dv]
abbrev AV (x : Ac) (dv : Value) : Value := .agg #[.int .i64 x.k, .int .i64 x.n, .int .i64 x.p, .string x.a, .string x.b, dv]
/-- its numbers are ints. -/
def Bd (x : Ac) : Prop := (-9223372036854775808 ≤ x.k ∧ x.k ≤ 9223372036854775807) ∧ (-9223372036854775808 ≤ x.n ∧ x.n ≤ 9223372036854775807) ∧ (-9223372036854775808 ≤ x.p ∧ x.p ≤ 9223372036854775807) ∧ x.a.size ≤ maxLen ∧ x.b.size ≤ maxLen
theorem bounds_i64 {a : Int} (h : (Lit.int .i64 a).wf = true) : -9223372036854775808 ≤ a ∧ a ≤ 9223372036854775807 := by
  simp [Lit.wf, IntKind.min, IntKind.max, IntKind.bits, IntKind.signed] at h
  omega
theorem cellsI : Tryz.prog.cellsOf 3 = 1 := by kernel_rfl
theorem cellsT : Tryz.prog.cellsOf 9 = 1 := by kernel_rfl
theorem cellsS : Tryz.prog.cellsOf 28 = 1 := by kernel_rfl
set_option maxRecDepth 100000 in
theorem open_sl {H : Type} {enc : TypeId × Value → H} {W : World} {fuel : Nat} {v : Value} {x : DataW H × List MemPlace} (hf : DataW.trod enc Tryz.prog W 0 (fun _ => true) true fuel 28 [v] = some x)
    (hw : ∀ y ∈ DataW.weights Tryz.prog 28 x.1, y ≤ reachBytes) : ∃ l, Sl W v l := by
  obtain ⟨n, f, S⟩ := open_sb hf
  refine ⟨bl f n, sb_sl S ?_⟩
  obtain ⟨sa, scap, rfl, _⟩ := S
  rcases open_ints Tryz.underlying28 Tryz.underlying5 cells5 hf with ⟨hcs, hx⟩ | ⟨a, len, cap, zs, hcs, _, hl, hm, hz, hx, hcell, hwz⟩
  · simp only [List.cons.injEq, Value.slice.injEq, and_true] at hcs
    omega
  · simp only [List.cons.injEq, Value.slice.injEq, and_true] at hcs
    obtain ⟨rfl, rfl, rfl⟩ := hcs
    simp only [if_true] at hz
    subst hx
    have hb := hw (((lits .u8 (zs.take n) : List (DataW H)).length + (lits .u8 (zs.drop n) : List (DataW H)).length) * Tryz.prog.bytesOf 5) (by
      show _ ∈ DataW.weights Tryz.prog 28 (.slice _ _)
      rw [DataW.weights, Tryz.underlying28]
      exact List.mem_cons_self ..)
    rw [bytes5, Nat.mul_one] at hb
    have hlen : (lits .u8 (zs.take n) : List (DataW H)).length + (lits .u8 (zs.drop n) : List (DataW H)).length = scap := by simp [lits]; omega
    rw [hlen] at hb
    unfold reachBytes at hb
    omega
theorem list6 {α : Type} : ∀ {l : List α}, l.length = 6 → ∃ a0 a1 a2 a3 a4 a5, l = [a0, a1, a2, a3, a4, a5]
  | [_, _, _, _, _, _], _ => ⟨_, _, _, _, _, _, rfl⟩
/-- the value v is a row of the calls L, each with its data's value. -/
def Al (w : World) (v : Value) (L : List (Ac × Value)) : Prop :=
  ∃ a cap, v = .slice a L.length cap ∧ L.length ≤ cap ∧ cap ≤ 9223372036854775807 ∧ (0 < L.length → ∃ b off, a = some ⟨b, off, none⟩ ∧ b < w.heap.size ∧ ∀ j, j < L.length → ∀ k, k < 6 → w.cell? ⟨b, off + j * 6 + k, none⟩ = (avs (L.getD j (ac0, .slice none 0 0)).1 (L.getD j (ac0, .slice none 0 0)).2)[k]?) ∧ ∀ x ∈ L, Bd x.1 ∧ Sl w x.2 x.1.dat
theorem Al.below {w w' : World} {v : Value} {L : List (Ac × Value)} (h : Al w v L) (q : Below w.heap.size w w') : Al w' v L := by
  obtain ⟨a, cap, e, h1, h2, h3, h4⟩ := h
  refine ⟨a, cap, e, h1, h2, fun hn => ?_, fun x hx => ⟨(h4 x hx).1, (h4 x hx).2.below q⟩⟩
  obtain ⟨b, off, ea, hb, B⟩ := h3 hn
  exact ⟨b, off, ea, Nat.lt_of_lt_of_le hb q.size, fun j hj k hk => (q.cell (p := ⟨b, off + j * 6 + k, none⟩) hb).trans (B j hj k hk)⟩
theorem Al.form {w : World} {v : Value} {L : List (Ac × Value)} (h : Al w v L) : ∃ a cap, v = .slice a L.length cap := by
  obtain ⟨a, cap, e, _⟩ := h
  exact ⟨a, cap, e⟩
theorem al_at {w : World} {a : Option Addr} {cap : Nat} {L : List (Ac × Value)} (F : Al w (.slice a L.length cap) L) {j : Nat} {x : Ac × Value} (h : L[j]? = some x) : ∃ b off, a = some ⟨b, off, none⟩ ∧ b < w.heap.size ∧ w.rangeAt b (off + j * 6) (avs x.1 x.2) ∧ Bd x.1 ∧ Sl w x.2 x.1.dat := by
  obtain ⟨hj, e⟩ := List.getElem?_eq_some_iff.1 h
  obtain ⟨a', cap', ev, _, _, hB, hS⟩ := F
  cases ev
  obtain ⟨b, off, ea, hb, B⟩ := hB (by omega)
  refine ⟨b, off, ea, hb, fun i v hi => ?_, hS x (by rw [← e]; exact List.getElem_mem hj)⟩
  have hi6 : i < 6 := (List.getElem?_eq_some_iff.1 hi).1
  rw [B j hj i hi6, List.getD_eq_getElem?_getD, h, Option.getD_some]
  exact hi
theorem weightsAll_mem {H : Type} {P : Program} {e : TypeId} {d : DataW H} {y : Nat} (hy : y ∈ d.weights P e) : ∀ {l : List (DataW H)}, d ∈ l → y ∈ DataW.weightsAll P e l
  | x :: r, h => by
    rw [DataW.weightsAll]
    rcases List.mem_cons.1 h with rfl | h
    · exact List.mem_append_left _ hy
    · exact List.mem_append_right _ (weightsAll_mem hy h)
theorem nil_al (w : World) : Al w (.slice none 0 0) [] := ⟨none, 0, rfl, Nat.le_refl _, by omega, fun h => absurd h (by simp), fun j h => absurd h (by simp)⟩
end Go.Proofs.YtkjolaoajbdomaaGreatDoor.Dk
