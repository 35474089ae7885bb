/-
  strings.Builder's WriteString; numerals: strconv.Itoa, strconv.FormatInt, leap.inSeconds.
  Conditions: the new length takes at most 2^47 bytes; internal/strconv's table of powers of ten reads as its text lays it.
-/
import Derived.Test.YtmehknhajoemgaaDoorWc
import Derived.Test.YtmehknhajoemgaaDoorCvD
import Derived.Lib.AppendStr
namespace Go.Proofs.YtmehknhajoemgaaDoor.Wd
open Go.ChangeShapes Go.WideShapes Go.ChangeAt Go.RowKit Go.Joins By
set_option linter.unusedVariables false
set_option linter.unusedSimpArgs false

/-- an append of two types whose outcome is known. -/
theorem wpList_append_eqS {P : Program} {w : World} {ops : Array Oper} {rest : List Oper} {o : Oper} {a : Act} {Q : Exit → Act → World → Prop} (hgd : o.guard = none) (s x : Operand) (t u : TypeId)
    (ho : o.op = .call { callee := .builtin .append, args := #[s, x], argTypes := #[t, u] }) (v xv v' : Value) (w' : World) (hs : a.eval s = v) (hx : a.eval x = xv)
    (hr : (Builtin.append_ #[t, u] o.type #[v, xv]).run P w = .ok v' w') (h : wpList P ops Q rest (a.put o.dst v') w') : wpList P ops Q (o :: rest) a w := by
  refine wpList_plain hgd fun K hK => ?_
  unfold Oper.wp execOp
  simp only [ho, resolve, invoke, builtin, Sem.run_bind, Sem.run_pure, Result.andThen_ok, List.map_toArray, List.map_cons, List.map_nil, hs, hx, hr]
  exact hK _ _ h
theorem cl_bn (s : ByteArray) : cl (bn s) = Lib.strCells s := by
  unfold cl bn Lib.strCells
  rw [List.map_map]
  rfl
/-- an append of a text to bytes of the call's own. -/
theorem appSt {w : World} {base : Nat} {v : Value} {l : List Nat} (h : Own w base v l) (s : ByteArray) (hb : base ≤ w.heap.size) (hn : l.length + s.size ≤ 140737488355328) (ty : TypeId) :
    ∃ v' w', (Builtin.append_ #[46, 9] ty #[v, .string s]).run Tryd.prog w = .ok v' w' ∧ Own w' base v' (l ++ bn s) ∧ w.grownBy w' v.ownBlock ∧ (v' = .slice none 0 0 ↔ v = .slice none 0 0 ∧ s.size = 0) := by
  obtain ⟨i, hi, hz, hs, hby⟩ := info_parts info_u8
  obtain ⟨v', w', hr, ho, hg, hnil⟩ := Lib.run_append_own_string (P := Tryd.prog) w base 46 9 ty 5 i Tryd.underlying46 Tryd.underlying9 hi hz hs hby v l.length (cl l) h s (by unfold maxLen; omega) hn hb
  refine ⟨v', w', hr, ?_, hg, hnil⟩
  unfold Own
  rw [cl_app, cl_bn, List.length_append, bn_len]
  exact ho
theorem wrote_grownS {B b o : Nat} {T : TypeId} {c : Array Value} {w w1 w2 : World} {v : Value} {l : List Nat} (F : Fb w1 b o T c) (hB : B ≤ w1.heap.size) (own : Own w1 B v l) (W : Wrote B b w w1) (hg : w1.grownBy w2 v.ownBlock) :
    Fb w2 b o T c ∧ Wrote B b w w2 := by
  have hne := own_ne own F.heap F.kind
  refine ⟨F.keep (hg.block b F.lt (fun e => hne e.symm)), ?_, ?_⟩
  · exact W.below.grown hg hB own.block
  · exact W.others.grown hg (own_kind own)

set_option maxRecDepth 100000 in
set_option maxHeartbeats 600000 in
theorem WriteString_c {w : World} {b o : Nat} {T : TypeId} {c : Array Value} (F : Fb w b o T c) {B : Nat} (hB : B ≤ b) {v : Value} {l : List Nat} (hv : c[o + 1]? = some v) (own : Own w B v l) (s : ByteArray) (hn : l.length + s.size ≤ 140737488355328) :
    Calls Tryd.prog 13 #[pt b o, .string s] w fun e w' => e = .returned (.tuple #[.int .i64 s.size, .nilIface]) ∧ ∃ v', Fb w' b o T ((c.setIfInBounds o (pt b o)).setIfInBounds (o + 1) v') ∧ Own w' B v' (l ++ bn s) ∧ Wrote B b w w' ∧ (v' = .slice none 0 0 ↔ v = .slice none 0 0 ∧ s.size = 0) := by
  have CC := copyCheck_c F B hB
  have RM := F.room
  unfold pt at *
  go_enter Tryd.func13, Tryd.ntmps13
  go_wp2_with fail
  refine CC.mono ?_
  rintro e w1 ⟨rfl, F1, hk, hs, W1⟩
  have own1 := own_same own (own_ne own F.heap F.kind) hk
  have lt1 := F1.lt
  obtain ⟨av, capv, ev, _⟩ := own_form own1
  subst ev
  have c1 : w1.cell? ⟨b, o + 1, none⟩ = some (.slice av l.length capv) := by rw [F1.cell, Array.getElem?_setIfInBounds, if_neg (by omega)]; exact hv
  obtain ⟨v', w2, hr, ho, hg, hnil⟩ := appSt own1 s (by omega) hn 46
  obtain ⟨F2, W2⟩ := wrote_grownS F1 (by omega) own1 W1 hg
  have c2 : w2.cell? ⟨b, o + 1, none⟩ = some (.slice av l.length capv) := by rw [F2.cell, Array.getElem?_setIfInBounds, if_neg (by omega)]; exact hv
  have z2 := F2.cold (o + 1)
  obtain ⟨a', cap', e', le'⟩ := own_form ho
  rw [List.length_append, bn_len] at e' le'
  subst e'
  have ne2 := own_ne ho F2.heap F2.kind
  have F3 : Fb (w2.setCell ⟨b, o + 1, none⟩ (.slice a' (l.length + s.size) cap')) b o T ((c.setIfInBounds o (.pointer (some ⟨b, o, none⟩))).setIfInBounds (o + 1) (.slice a' (l.length + s.size) cap')) :=
    ⟨heap_set F2.heap _ _, F2.kind, by simpa using RM, by simpa using F2.lies, by rw [Array.getElem?_setIfInBounds, if_neg (by omega)]; exact F2.addr⟩
  have O3 := own_set ho ne2 (o + 1) (.slice a' (l.length + s.size) cap')
  have W3 := W2.set hB (o + 1) (.slice a' (l.length + s.size) cap')
  have RA := Lib.hid hr
  have P3 := Lib.hid (And.intro F3 (And.intro O3 (And.intro W3 hnil)))
  clear F3 O3 W3 hr ho hg F2 W2 own1 hk W1 F1 ne2 CC hs hnil
  go_wp2_with (at_builtin; refine wpList_append_eqS rfl (.tmp 12) (.tmp 13) 46 9 rfl _ _ _ w2 rfl rfl RA.out ?_)
  go_ret2
  exact ⟨rfl, _, P3.out⟩
theorem Qb.writeS {w wr : World} {l : List Nat} (h : Qb w wr l) (s : ByteArray) (hn : l.length + s.size ≤ 140737488355328) :
    Calls Tryd.prog 13 #[.pointer (some ⟨w.heap.size, 0, none⟩), .string s] wr fun e w' => e = .returned (.tuple #[.int .i64 s.size, .nilIface]) ∧ Qb w w' (l ++ bn s) ∧ Lib.OthersKept 5 (some w.heap.size) wr w' := by
  obtain ⟨c, v, F, hv, own, hz, hb⟩ := h
  refine (WriteString_c F (Nat.le_refl _) hv own s hn).mono ?_
  rintro e w' ⟨rfl, v', F', own', W, hnil⟩
  refine ⟨rfl, ⟨_, v', F', ?_, own', fun h => hnil.2 ?_, hb.trans W.below⟩, W.others⟩
  · rw [Array.getElem?_setIfInBounds, if_pos rfl, if_pos (by have := F.room; simp; omega)]
  · have h1 : l = [] ∧ bn s = [] := List.append_eq_nil_iff.1 h
    exact ⟨hz h1.1, by rw [← bn_len, h1.2]; rfl⟩
/-- .. what may happen beside it: new blocks. -/
theorem Qb.below {w wr w' : World} {l : List Nat} (h : Qb w wr l) (k : Below wr.heap.size wr w') : Qb w w' l := by
  obtain ⟨c, v, F, hv, own, hz, hb⟩ := h
  refine ⟨c, v, F.keep (k.block _ F.lt), hv, ?_, hz, hb.trans (k.mono hb.size)⟩
  obtain ⟨h1, h2⟩ := own
  refine ⟨h1, h2.imp id ?_⟩
  rintro ⟨g, cap, cur, e, hg, hh, r⟩
  exact ⟨g, cap, cur, e, hg, (k.block g (Array.getElem?_eq_some_iff.1 hh).1).trans hh, r⟩

/-- a number's digits. -/
def num (n : Int) : ByteArray := ⟨(Lib.decDigits n.toNat).toArray⟩
theorem itoa_num {n : Int} (h : 0 ≤ n) : (⟨(Lib.itoa n).toArray⟩ : ByteArray) = num n := by
  unfold Lib.itoa num
  rw [if_neg (by omega)]
theorem Itoa_c (n : Int) (w : World) (T : Cv.Tab w) (h : 0 ≤ n) (h' : n ≤ 9223372036854775807) :
    Calls Tryd.prog 15 #[.int .i64 n] w fun e w' => e = .returned (.string (num n)) ∧ Below w.heap.size w w' :=
  (Tryd.strconv_Itoa n (by omega) h' w T).mono fun e w' ⟨he, k, os, hw⟩ => ⟨by rw [he, itoa_num h], by rw [hw]; exact Cv.below_grow w k os⟩
theorem FormatInt_in (n : Int) (w : World) (T : Cv.Tab w) (h : 0 ≤ n) (h' : n ≤ 9223372036854775807) :
    Calls Tryd.prog 41 #[.int .i64 n, .int .i64 10] w fun e w' => e = .returned (.string (num n)) ∧ Below w.heap.size w w' :=
  (Any.internal_strconv_FormatInt_10 { Tryd.laysM171 with } n (by omega) h' w T).mono fun e w' ⟨he, k, os, hw⟩ => ⟨by rw [he, itoa_num h], by rw [hw]; exact Cv.below_grow w k os⟩
theorem FormatInt_c (n : Int) (w : World) (T : Cv.Tab w) (h : 0 ≤ n) (h' : n ≤ 9223372036854775807) :
    Calls Tryd.prog 29 #[.int .i64 n, .int .i64 10] w fun e w' => e = .returned (.string (num n)) ∧ Below w.heap.size w w' := by
  have F := FormatInt_in n w T h h'
  generalize num n = s at *
  go_enter Tryd.func29, Tryd.ntmps29
  go_wp2_with fail
  refine F.mono ?_
  rintro e w1 ⟨rfl, hb⟩
  have HB := Lib.hid hb
  clear hb
  go_wp2_with fail
  go_ret
  exact ⟨rfl, HB.out⟩
theorem inSeconds_c (t : Int) (w : World) (T : Cv.Tab w) (h : 0 ≤ t) (h' : t ≤ 9223372036854775807) :
    Calls Tryd.prog 14 #[.int .i64 t] w fun e w' => e = .returned (.string (num (t / 1048576))) ∧ Below w.heap.size w w' := by
  have F := FormatInt_c (t / 1048576) w T (by omega) (by omega)
  generalize num (t / 1048576) = s at *
  go_enter Tryd.func14, Tryd.ntmps14
  go_wp2_with fail
  refine F.mono ?_
  rintro e w1 ⟨rfl, hb⟩
  have HB := Lib.hid hb
  clear hb
  go_wp2_with fail
  go_ret
  exact ⟨rfl, HB.out⟩
end Go.Proofs.YtmehknhajoemgaaDoor.Wd
