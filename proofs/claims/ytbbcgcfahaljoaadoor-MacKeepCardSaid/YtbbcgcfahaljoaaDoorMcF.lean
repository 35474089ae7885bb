/-
  The contracts of slices.Clone, slices.Grow and slices.Concat at bytes.
  Conditions: bytes are handed in.
-/
import Derived.Test.YtbbcgcfahaljoaaDoorMcA
import Derived.Lib.AppendZerosOnto
namespace Go.Proofs.YtbbcgcfahaljoaaDoor.Mc
open Go.ChangeShapes Go.WideShapes Go.ChangeAt Go.RowKit Go.Joins Hs
set_option linter.unusedVariables false
set_option linter.unusedSimpArgs false

/-- an append of two types whose outcome is known. -/
theorem wpList_append_eq2 {P : Program} {w : World} {ops : Array Oper} {rest : List Oper} {o : Oper} {a : Act} {Q : Exit → Act → World → Prop} (hgd : o.guard = none) (s x : Operand) (t u : TypeId)
    (ho : o.op = .call { callee := .builtin .append, args := #[s, x], argTypes := #[t, u] }) (v xv v' : Value) (w' : World) (hs : a.eval s = v) (hx : a.eval x = xv)
    (hr : (Builtin.append_ #[t, u] o.type #[v, xv]).run P w = .ok v' w') (h : wpList P ops Q rest (a.put o.dst v') w') : wpList P ops Q (o :: rest) a w := by
  refine wpList_plain hgd fun K hK => ?_
  unfold Oper.wp execOp
  simp only [ho, resolve, invoke, builtin, Sem.run_bind, Sem.run_pure, Result.andThen_ok, List.map_toArray, List.map_cons, List.map_nil, hs, hx, hr]
  exact hK _ _ h
theorem eql_nil (w : World) (a : Option Addr) (n c n' c' : Nat) : (binOp .eql 26 (.slice a n c) (.slice none n' c')).run Tryd.prog w = .ok (.bool a.isNone) w := Lib.run_eql_slice_nil w _ _ a n c n' c' Tryd.underlying26
set_option maxRecDepth 100000 in
set_option maxHeartbeats 4000000 in
theorem Clone_c {w : World} {b off n cap : Nat} {f : Nat → Nat} (B : 0 < n → Bs w b off n f) (hf : ∀ i, f i < 256) (hn : n ≤ 140737488355328) (hc : n ≤ cap) (hc2 : cap ≤ 9223372036854775807) :
    Calls Tryd.prog 21 #[.slice (some ⟨b, off, none⟩) n cap] w fun e w' => ∃ v, e = .returned v ∧ Own w' w.heap.size v (bl f n) ∧ Below w.heap.size w w' := by
  have SB : Sb w (.slice (some ⟨b, off, none⟩) n cap) n f := ⟨_, cap, rfl, hc, hc2, hf, fun h => ⟨b, off, rfl, B h⟩, fun h => by cases h⟩
  obtain ⟨v2, w2, r2, o2, b2, s2, nn2⟩ := SB.app (balloc (brefl w) (.cells #[] 5)) (own0 w w.heap.size (Nat.le_refl _)) (by simp) (by simp; omega) 26
  rw [List.nil_append] at o2
  have R2 := Lib.hid r2
  have O2 := Lib.hid o2
  have B2 := Lib.hid ((balloc (brefl w) (.cells #[] 5)).trans b2)
  have EN := eql_nil
  clear r2 o2 b2 s2 nn2 SB B
  go_enter Tryd.func21, Tryd.ntmps21
  go_wp2_with (at_builtin; refine wpList_append_eq rfl _ _ 26 rfl _ _ v2 w2 rfl rfl R2.out ?_)
  go_ret
  exact ⟨v2, rfl, O2.out, B2.out⟩

set_option maxRecDepth 100000 in
set_option maxHeartbeats 4000000 in
/-- Grow of nil by n bytes. -/
theorem Grow_c (n : Nat) (w : World) (h1 : 0 < n) (hn : n ≤ 140737488355328) :
    Calls Tryd.prog 38 #[.slice none 0 0, .int .i64 n] w fun e w' => ∃ v, e = .returned v ∧ Own w' w.heap.size v [] ∧ Below w.heap.size w w' := by
  obtain ⟨i, hi, hz, hs, hby⟩ := info_parts info_u8
  have hr : ∀ ty, (Builtin.append_ #[26, 3] ty #[.slice none 0 0, .int .i64 (n : Int)]).run Tryd.prog w =
      .ok (.slice (some ⟨w.heap.size, 0, none⟩) n (grownCap w n 0 5)) (w.drew.alloc (.cells (([] : List Value).toArray ++ Builtin.zeroCells (Value.int .u8 0).cells n ++ Builtin.zeroCells (Value.int .u8 0).cells (grownCap w n 0 5 - n)) 5)) := fun ty => by
    have h := Lib.run_append_grow_zeros w 26 3 ty 5 i (.int .u8 0) .i64 .i64 Tryd.underlying26 Tryd.underlying3 hi hz none 0 0 [] (run_firstCells_none w.drew i.size 0 0 0) n h1 (by rw [hs]; omega) (by omega) (by omega)
      (by rw [hby]; omega)
      (by rw [Nat.zero_add]; exact growslice_fits h1 (by rw [hby]; omega))
    rw [Nat.zero_add] at h
    exact h
  have HR := Lib.hid hr
  have hGn : n ≤ grownCap w n 0 5 := grownCap_ge w _ _ _
  have hG63 := grownCap_le_maxLen w n 0 5 (by unfold maxLen; omega)
  obtain ⟨G, hG⟩ : ∃ G, G = grownCap w n 0 5 := ⟨_, rfl⟩
  rw [← hG] at HR hGn hG63
  have k0 : ((n : Int) < 0) ↔ False := by simp
  have k1 : ((n : Int) > 0) ↔ True := by simp; omega
  have k2 : (n : Int) ≤ 140737488355328 := by omega
  have k3 : (0 : Int) < (n : Int) := by omega
  have hG2 : (n : Int) ≤ (G : Int) := by omega
  have hG3 : (G : Int) ≤ 9223372036854775807 := by unfold maxLen at hG63; omega
  have OW : Hid (Own (w.drew.alloc (.cells (([] : List Value).toArray ++ Builtin.zeroCells (Value.int .u8 0).cells n ++ Builtin.zeroCells (Value.int .u8 0).cells (G - n)) 5)) w.heap.size (.slice (some ⟨w.heap.size, 0, none⟩) 0 G) []) := Lib.hid
    ⟨rfl, .inr ⟨w.heap.size, G, _, rfl, Nat.le_refl _, heap_alloc_new w.drew _, Nat.zero_le _, hG63, by simp [Builtin.zeroCells]; show n * 1 + (G - n) * 1 = G; omega, by simp [cl]⟩⟩
  have BW : Hid (Below w.heap.size w (w.drew.alloc (.cells (([] : List Value).toArray ++ Builtin.zeroCells (Value.int .u8 0).cells n ++ Builtin.zeroCells (Value.int .u8 0).cells (G - n)) 5))) := Lib.hid (((brefl w).drew).alloc ((brefl w).drew).size _)
  clear hr hG hi hz hs hby
  generalize w.drew.alloc (.cells (([] : List Value).toArray ++ Builtin.zeroCells (Value.int .u8 0).cells n ++ Builtin.zeroCells (Value.int .u8 0).cells (G - n)) 5) = w2 at *
  go_enter Tryd.func38, Tryd.ntmps38
  go_wp2_with (at_builtin; refine wpList_append_eq2 rfl _ _ 26 3 rfl _ _ _ w2 rfl rfl (HR.out _) ?_)
  go_ret
  exact ⟨_, rfl, OW.out, BW.out⟩

/-- two slices of bytes lie in a new block. -/
theorem two_at (w : World) (va vb : Value) (ty : TypeId) : (w.alloc (.cells #[va, vb] ty)).cell? ⟨w.heap.size, 0, none⟩ = some va ∧ (w.alloc (.cells #[va, vb] ty)).cell? ⟨w.heap.size, 1, none⟩ = some vb := by
  constructor <;> simp
set_option maxRecDepth 100000 in
set_option maxHeartbeats 8000000 in
theorem Concat_c {w : World} {va vb : Value} {l n : Nat} {f g : Nat → Nat} (A : Sb w va l f) (B : Sb w vb n g) (g0 : Nat) (hg0 : g0 < w.heap.size) (c0 : w.cell? ⟨g0, 0, none⟩ = some va) (c1 : w.cell? ⟨g0, 1, none⟩ = some vb) (h1 : 0 < l + n) (h2 : l + n ≤ 140737488355328) :
    Calls Tryd.prog 25 #[.slice (some ⟨g0, 0, none⟩) 2 2] w fun e w' => ∃ v, e = .returned v ∧ Own w' w.heap.size v (bl f l ++ bl g n) ∧ Below w.heap.size w w' := by
  have HA := Lib.hid A
  have HB := Lib.hid B
  obtain ⟨a, ca, rfl, a1, a2, a3, a4, a5⟩ := A
  obtain ⟨b, cb, rfl, b1, b2, b3, b4, b5⟩ := B
  clear a3 a4 a5 b3 b4 b5
  have C0 := Lib.hid c0
  have C1 := Lib.hid c1
  clear c0 c1
  have z1 : (l : Int) ≤ 140737488355328 := by omega
  have z2 : (n : Int) ≤ 140737488355328 := by omega
  have z0 : (0 : Int) ≤ (l : Int) := by omega
  have zn : (0 : Int) ≤ (n : Int) := by omega
  go_enter Tryd.func25, Tryd.ntmps25
  go_wp2_with fail
  go_loopw [3, 5, 11] (fun s _ i wr => ∃ k : Nat, k ≤ 2 ∧ i = .int .i64 k ∧ s = .int .i64 ((if k = 0 then 0 else if k = 1 then l else l + n : Nat) : Int) ∧ Below w.heap.size w wr) (fun _ _ i _ => 2 - (intOf i).toNat)
  case atStart => exact ⟨0, by omega, rfl, rfl, brefl w⟩
  case round =>
    obtain ⟨k, hk, rfl, rfl, hb⟩ := hrel
    rename World => w5
    have BB := Lib.hid hb
    have d0 := (BB.out.cell (p := ⟨g0, 0, none⟩) hg0).trans C0.out
    have d1 := (BB.out.cell (p := ⟨g0, 1, none⟩) hg0).trans C1.out
    clear hb
    match k, hk with
    | 0, _ =>
      simp only [if_true]
      go_wp2_with fail
      go_roundw
      case rel => exact ⟨1, by omega, by go_num, by go_num, BB.out⟩
      case measure => simp [intOf]
    | 1, _ =>
      simp only [if_true, if_neg (show ¬ (1 : Nat) = 0 by omega)]
      go_wp2_with fail
      go_roundw
      case rel => exact ⟨2, by omega, by go_num, by go_num, BB.out⟩
      case measure => simp [intOf]
    | 2, _ =>
      simp only [if_neg (show ¬ (2 : Nat) = 0 by omega), if_neg (show ¬ (2 : Nat) = 1 by omega)]
      go_wp2_with fail
      refine (Grow_c (l + n) w5 h1 h2).mono ?_
      rintro e w6 ⟨v6, rfl, own6, hb6⟩
      have O6 := Lib.hid (own6.le BB.out.size)
      have B6 := Lib.hid (BB.out.trans (hb6.mono BB.out.size))
      clear own6 hb6 d0 d1
      go_wp2_with fail
      go_loopw [6, 8, 27] (fun v _ i wr => ∃ k : Nat, k ≤ 2 ∧ i = .int .i64 k ∧ Own wr w.heap.size v (if k = 0 then [] else if k = 1 then bl f l else bl f l ++ bl g n) ∧ Below w.heap.size w wr) (fun _ _ i _ => 2 - (intOf i).toNat)
      case atStart => exact ⟨0, by omega, rfl, O6.out, B6.out⟩
      case round =>
        obtain ⟨k, hk, rfl, own, hb⟩ := hrel
        rename World => w7
        have BB := Lib.hid hb
        have d0 := (BB.out.cell (p := ⟨g0, 0, none⟩) hg0).trans C0.out
        have d1 := (BB.out.cell (p := ⟨g0, 1, none⟩) hg0).trans C1.out
        clear hb
        match k, hk with
        | 0, _ =>
          obtain ⟨v8, w8, r8, o8, b8, s8, _⟩ := HA.out.app BB.out own BB.out.size (by simp; omega) 26
          have R8 := Lib.hid r8
          have O8 : Hid (Own w8 w.heap.size v8 (bl f l)) := Lib.hid o8
          have B8 := Lib.hid (BB.out.trans b8)
          clear r8 o8 b8 s8 own
          go_wp2_with (at_builtin; refine wpList_append_eq2 rfl _ _ 26 26 rfl _ _ v8 w8 rfl rfl R8.out ?_)
          go_roundw
          case rel => exact ⟨1, by omega, by go_num, O8.out, B8.out⟩
          case measure => simp [intOf]
        | 1, _ =>
          obtain ⟨v8, w8, r8, o8, b8, s8, _⟩ := HB.out.app BB.out own BB.out.size (by show (bl f l).length + n ≤ _; rw [bl_len]; omega) 26
          have R8 := Lib.hid r8
          have O8 : Hid (Own w8 w.heap.size v8 (bl f l ++ bl g n)) := Lib.hid o8
          have B8 := Lib.hid (BB.out.trans b8)
          clear r8 o8 b8 s8 own
          go_wp2_with (at_builtin; refine wpList_append_eq2 rfl _ _ 26 26 rfl _ _ v8 w8 rfl rfl R8.out ?_)
          go_roundw
          case rel => exact ⟨2, by omega, by go_num, O8.out, B8.out⟩
          case measure => simp [intOf]
        | 2, _ =>
          have O8 : Hid (Own w7 w.heap.size _ (bl f l ++ bl g n)) := Lib.hid own
          clear own
          go_wp2_with fail
          go_ret
          exact ⟨_, rfl, O8.out, BB.out⟩
end Go.Proofs.YtbbcgcfahaljoaaDoor.Mc
