/-
  A strings.Builder in a field of a block: WriteByte, WriteRune.
  Conditions: the new length takes at most 2^47 bytes.
-/
import Derived.Test.YthlmjfjkjjoimaaDoorWpA
namespace Go.Proofs.YthlmjfjkjjoimaaDoor.Wd
open Go.ChangeShapes Go.WideShapes Go.ChangeAt Go.RowKit Go.Joins By
set_option linter.unusedVariables false
set_option linter.unusedSimpArgs false

set_option maxRecDepth 100000 in
set_option maxHeartbeats 600000 in
theorem WriteByte_c {w : World} {b o : Nat} {T : TypeId} {c : Array Value} (F : Fb w b o T c) {B : Nat} (hB : B ≤ b) {v : Value} {l : List Nat} (hv : c[o + 1]? = some v) (own : Own w B v l) (hn : l.length + 1 ≤ 140737488355328) (x : Nat) :
    Calls Tryd.prog 23 #[pt b o, .int .u8 (x : Int)] w fun e w' => e = .returned .nilIface ∧ ∃ v', Fb w' b o T ((c.setIfInBounds o (pt b o)).setIfInBounds (o + 1) v') ∧ Own w' B v' (l ++ [x]) ∧ Wrote B b w w' := by
  have CC := copyCheck_c F B hB
  have RM := F.room
  unfold pt at *
  go_enter Tryd.func23, Tryd.ntmps23
  go_wp2_with fail
  refine CC.mono ?_
  rintro e w1 ⟨rfl, F1, hk, hs, W1⟩
  have own1 := own_same own (own_ne own F.heap F.kind) hk
  have lt1 := F1.lt
  obtain ⟨av, capv, ev, _⟩ := own_form own1
  subst ev
  have c1 : w1.cell? ⟨b, o + 1, none⟩ = some (.slice av l.length capv) := by rw [F1.cell, Array.getElem?_setIfInBounds, if_neg (by omega)]; exact hv
  obtain ⟨v', w2, hr, ho, hg⟩ := app1k own1 x (by omega) hn 34
  obtain ⟨F2, W2⟩ := wrote_grown F1 (by omega) own1 W1 hg
  have c2 : w2.cell? ⟨b, o + 1, none⟩ = some (.slice av l.length capv) := by rw [F2.cell, Array.getElem?_setIfInBounds, if_neg (by omega)]; exact hv
  have z2 := F2.cold (o + 1)
  obtain ⟨a', cap', e', _⟩ := own_form ho
  rw [List.length_append, List.length_singleton] at e'
  subst e'
  have ne2 := own_ne ho F2.heap F2.kind
  have F3 : Fb (w2.setCell ⟨b, o + 1, none⟩ (.slice a' (l.length + 1) cap')) b o T ((c.setIfInBounds o (.pointer (some ⟨b, o, none⟩))).setIfInBounds (o + 1) (.slice a' (l.length + 1) cap')) :=
    ⟨heap_set F2.heap _ _, F2.kind, by simpa using RM, by simpa using F2.lies, by rw [Array.getElem?_setIfInBounds, if_neg (by omega)]; exact F2.addr⟩
  have O3 := own_set ho ne2 (o + 1) (.slice a' (l.length + 1) cap')
  have W3 := W2.set hB (o + 1) (.slice a' (l.length + 1) cap')
  have RA := Lib.hid hr
  have P3 := Lib.hid (And.intro F3 (And.intro O3 W3))
  clear F3 O3 W3 hr ho hg F2 W2 own1 hk W1 F1 ne2 CC hs
  go_wp2_with (at_builtin; refine wpList_append_eq rfl (.tmp 11) (.tmp 13) 34 rfl _ _ _ w2 rfl rfl RA.out ?_)
  go_ret
  exact ⟨rfl, _, P3.out⟩

/-- a rune's bytes. -/
def rb (r : Int) : List Nat := (Lib.encodeRune r).map UInt8.toNat
theorem cl_rb (r : Int) : cl (rb r) = Lib.runeCells r := by
  rw [← Lib.byteCells_encodeRune]
  simp [cl, rb, Lib.byteCells]
theorem rb_len (r : Int) : (rb r).length = (Lib.runeCells r).length := by rw [← cl_rb, cl_len]
theorem rb_byte (r : Int) : ∀ x ∈ rb r, x < 256 := by
  intro x hx
  simp only [rb, List.mem_map] at hx
  obtain ⟨y, _, rfl⟩ := hx
  exact y.toNat_lt

set_option maxRecDepth 100000 in
set_option maxHeartbeats 600000 in
theorem WriteRune_c {w : World} {b o : Nat} {T : TypeId} {c : Array Value} (F : Fb w b o T c) {B : Nat} (hB : B ≤ b) {v : Value} {l : List Nat} (hv : c[o + 1]? = some v) (own : Own w B v l) (hn : l.length + 4 ≤ 140737488355328) (r : Int) (hr0 : 0 ≤ r) (hr1 : r ≤ 2147483647) :
    Calls Tryd.prog 30 #[pt b o, .int .i32 r] w fun e w' => (∃ n, e = .returned (.tuple #[.int .i64 n, .nilIface])) ∧ ∃ v', Fb w' b o T ((c.setIfInBounds o (pt b o)).setIfInBounds (o + 1) v') ∧ Own w' B v' (l ++ rb r) ∧ Wrote B b w w' := by
  have CC := copyCheck_c F B hB
  have RM := F.room
  have hk4 := Lib.runeCells_le r
  unfold pt at *
  go_enter Tryd.func30, Tryd.ntmps30
  go_wp2_with fail
  refine CC.mono ?_
  rintro e w1 ⟨rfl, F1, hk, hs, W1⟩
  have own1 := own_same own (own_ne own F.heap F.kind) hk
  have lt1 := F1.lt
  obtain ⟨av, capv, ev, _⟩ := own_form own1
  subst ev
  have c1 : w1.cell? ⟨b, o + 1, none⟩ = some (.slice av l.length capv) := by rw [F1.cell, Array.getElem?_setIfInBounds, if_neg (by omega)]; exact hv
  have CA := Tryd.utf8_AppendRune_plain B (.slice av l.length capv) l.length (cl l) r (by omega) hr1 w1 own1 hn (by omega)
  go_wp2_with fail
  refine CA.mono ?_
  rintro e w2 ⟨v', rfl, ho', ob, hg⟩
  have ho : Own w2 B v' (l ++ rb r) := by
    unfold Own
    rw [cl_app, cl_rb, List.length_append, rb_len]
    exact ho'
  obtain ⟨F2, W2⟩ := wrote_grown F1 (by omega) own1 W1 hg
  have c2 : w2.cell? ⟨b, o + 1, none⟩ = some (.slice av l.length capv) := by rw [F2.cell, Array.getElem?_setIfInBounds, if_neg (by omega)]; exact hv
  have z2 := F2.cold (o + 1)
  obtain ⟨a', cap', e', le'⟩ := own_form ho
  rw [List.length_append, rb_len] at e' le'
  subst e'
  have ne2 := own_ne ho F2.heap F2.kind
  generalize (Lib.runeCells r).length = nr at *
  have F3 : Fb (w2.setCell ⟨b, o + 1, none⟩ (.slice a' (l.length + nr) cap')) b o T ((c.setIfInBounds o (.pointer (some ⟨b, o, none⟩))).setIfInBounds (o + 1) (.slice a' (l.length + nr) cap')) :=
    ⟨heap_set F2.heap _ _, F2.kind, by simpa using RM, by simpa using F2.lies, by rw [Array.getElem?_setIfInBounds, if_neg (by omega)]; exact F2.addr⟩
  have O3 := own_set ho ne2 (o + 1) (.slice a' (l.length + nr) cap')
  have W3 := W2.set hB (o + 1) (.slice a' (l.length + nr) cap')
  have P3 := Lib.hid (And.intro F3 (And.intro O3 W3))
  clear F3 O3 W3 ho ho' hg F2 W2 own1 hk W1 F1 ne2 CC CA hs
  go_wp2_with fail
  go_ret2
  exact ⟨⟨_, rfl⟩, _, P3.out⟩

end Go.Proofs.YthlmjfjkjjoimaaDoor.Wd
