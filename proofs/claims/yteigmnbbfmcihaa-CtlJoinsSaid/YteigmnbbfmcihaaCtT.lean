/-
  Two frames that may be pieces of the same data.
  Conditions: none.
-/
import Derived.Test.YteigmnbbfmcihaaCtS
namespace Go.Proofs.Yteigmnbbfmcihaa.Ct
open Go.RowKit Go.ChangeShapes Go.WideShapes Go.ChangeAt Go.Joins By
set_option linter.unusedVariables false
set_option linter.unusedSimpArgs false

/-- they differ in data, offset and the mark of more alone. -/
def like (f g : Fr) : Bool := decide (f.ver = g.ver) && (decide (f.resp = g.resp) && (decide (f.er = g.er) && (decide (f.op = g.op) && (decide (f.seq = g.seq) && (decide (f.st = g.st) && decide (f.asc = g.asc))))))
set_option maxRecDepth 100000 in
set_option maxHeartbeats 8000000 in
theorem isLike_w0 (a0 a4 a5 a6 a7 a8 b0 b4 b5 b6 b7 b8 : Int) (a1 a2 a3 b1 b2 b3 : Bool) (da ea : Option Addr) (dn en dc ec : Nat) (h : (a0 == b0) = false) (w : World) : Calls Try.prog 32 #[.agg #[.int .i64 a0, .bool a1, .bool a2, .bool a3, .int .i64 a4, .int .i64 a5, .int .i64 a6, .int .i64 a7, .int .i64 a8, .slice da dn dc], .agg #[.int .i64 b0, .bool b1, .bool b2, .bool b3, .int .i64 b4, .int .i64 b5, .int .i64 b6, .int .i64 b7, .int .i64 b8, .slice ea en ec]] w fun e w' => e = .returned (.bool false) ∧ Below w.heap.size w w' := by
  have BB := Lib.hid (balloc (balloc (brefl w) (.cells #[.int .i64 a0, .bool a1, .bool a2, .bool a3, .int .i64 a4, .int .i64 a5, .int .i64 a6, .int .i64 a7, .int .i64 a8, .slice da dn dc] 24)) (.cells #[.int .i64 b0, .bool b1, .bool b2, .bool b3, .int .i64 b4, .int .i64 b5, .int .i64 b6, .int .i64 b7, .int .i64 b8, .slice ea en ec] 24))
  go_enter Try.func32, Try.ntmps32
  go_wp2_with fail
  go_ret
  exact ⟨rfl, BB.out⟩
set_option maxRecDepth 100000 in
set_option maxHeartbeats 8000000 in
theorem isLike_w1 (a0 a4 a5 a6 a7 a8 b4 b5 b6 b7 b8 : Int) (a1 a2 a3 b1 b2 b3 : Bool) (da ea : Option Addr) (dn en dc ec : Nat) (h : (a1 == b1) = false) (w : World) : Calls Try.prog 32 #[.agg #[.int .i64 a0, .bool a1, .bool a2, .bool a3, .int .i64 a4, .int .i64 a5, .int .i64 a6, .int .i64 a7, .int .i64 a8, .slice da dn dc], .agg #[.int .i64 a0, .bool b1, .bool b2, .bool b3, .int .i64 b4, .int .i64 b5, .int .i64 b6, .int .i64 b7, .int .i64 b8, .slice ea en ec]] w fun e w' => e = .returned (.bool false) ∧ Below w.heap.size w w' := by
  have BB := Lib.hid (balloc (balloc (brefl w) (.cells #[.int .i64 a0, .bool a1, .bool a2, .bool a3, .int .i64 a4, .int .i64 a5, .int .i64 a6, .int .i64 a7, .int .i64 a8, .slice da dn dc] 24)) (.cells #[.int .i64 a0, .bool b1, .bool b2, .bool b3, .int .i64 b4, .int .i64 b5, .int .i64 b6, .int .i64 b7, .int .i64 b8, .slice ea en ec] 24))
  go_enter Try.func32, Try.ntmps32
  go_wp2_with fail
  go_ret
  exact ⟨rfl, BB.out⟩
set_option maxRecDepth 100000 in
set_option maxHeartbeats 8000000 in
theorem isLike_w2 (a0 a4 a5 a6 a7 a8 b4 b5 b6 b7 b8 : Int) (a1 a2 a3 b2 b3 : Bool) (da ea : Option Addr) (dn en dc ec : Nat) (h : (a2 == b2) = false) (w : World) : Calls Try.prog 32 #[.agg #[.int .i64 a0, .bool a1, .bool a2, .bool a3, .int .i64 a4, .int .i64 a5, .int .i64 a6, .int .i64 a7, .int .i64 a8, .slice da dn dc], .agg #[.int .i64 a0, .bool a1, .bool b2, .bool b3, .int .i64 b4, .int .i64 b5, .int .i64 b6, .int .i64 b7, .int .i64 b8, .slice ea en ec]] w fun e w' => e = .returned (.bool false) ∧ Below w.heap.size w w' := by
  have BB := Lib.hid (balloc (balloc (brefl w) (.cells #[.int .i64 a0, .bool a1, .bool a2, .bool a3, .int .i64 a4, .int .i64 a5, .int .i64 a6, .int .i64 a7, .int .i64 a8, .slice da dn dc] 24)) (.cells #[.int .i64 a0, .bool a1, .bool b2, .bool b3, .int .i64 b4, .int .i64 b5, .int .i64 b6, .int .i64 b7, .int .i64 b8, .slice ea en ec] 24))
  go_enter Try.func32, Try.ntmps32
  go_wp2_with fail
  go_ret
  exact ⟨rfl, BB.out⟩
set_option maxRecDepth 100000 in
set_option maxHeartbeats 8000000 in
theorem isLike_w4 (a0 a4 a5 a6 a7 a8 b4 b5 b6 b7 b8 : Int) (a1 a2 a3 b3 : Bool) (da ea : Option Addr) (dn en dc ec : Nat) (h : (a4 == b4) = false) (w : World) : Calls Try.prog 32 #[.agg #[.int .i64 a0, .bool a1, .bool a2, .bool a3, .int .i64 a4, .int .i64 a5, .int .i64 a6, .int .i64 a7, .int .i64 a8, .slice da dn dc], .agg #[.int .i64 a0, .bool a1, .bool a2, .bool b3, .int .i64 b4, .int .i64 b5, .int .i64 b6, .int .i64 b7, .int .i64 b8, .slice ea en ec]] w fun e w' => e = .returned (.bool false) ∧ Below w.heap.size w w' := by
  have BB := Lib.hid (balloc (balloc (brefl w) (.cells #[.int .i64 a0, .bool a1, .bool a2, .bool a3, .int .i64 a4, .int .i64 a5, .int .i64 a6, .int .i64 a7, .int .i64 a8, .slice da dn dc] 24)) (.cells #[.int .i64 a0, .bool a1, .bool a2, .bool b3, .int .i64 b4, .int .i64 b5, .int .i64 b6, .int .i64 b7, .int .i64 b8, .slice ea en ec] 24))
  go_enter Try.func32, Try.ntmps32
  go_wp2_with fail
  go_ret
  exact ⟨rfl, BB.out⟩
set_option maxRecDepth 100000 in
set_option maxHeartbeats 8000000 in
theorem isLike_w5 (a0 a4 a5 a6 a7 a8 b5 b6 b7 b8 : Int) (a1 a2 a3 b3 : Bool) (da ea : Option Addr) (dn en dc ec : Nat) (h : (a5 == b5) = false) (w : World) : Calls Try.prog 32 #[.agg #[.int .i64 a0, .bool a1, .bool a2, .bool a3, .int .i64 a4, .int .i64 a5, .int .i64 a6, .int .i64 a7, .int .i64 a8, .slice da dn dc], .agg #[.int .i64 a0, .bool a1, .bool a2, .bool b3, .int .i64 a4, .int .i64 b5, .int .i64 b6, .int .i64 b7, .int .i64 b8, .slice ea en ec]] w fun e w' => e = .returned (.bool false) ∧ Below w.heap.size w w' := by
  have BB := Lib.hid (balloc (balloc (brefl w) (.cells #[.int .i64 a0, .bool a1, .bool a2, .bool a3, .int .i64 a4, .int .i64 a5, .int .i64 a6, .int .i64 a7, .int .i64 a8, .slice da dn dc] 24)) (.cells #[.int .i64 a0, .bool a1, .bool a2, .bool b3, .int .i64 a4, .int .i64 b5, .int .i64 b6, .int .i64 b7, .int .i64 b8, .slice ea en ec] 24))
  go_enter Try.func32, Try.ntmps32
  go_wp2_with fail
  go_ret
  exact ⟨rfl, BB.out⟩
set_option maxRecDepth 100000 in
set_option maxHeartbeats 8000000 in
theorem isLike_w6 (a0 a4 a5 a6 a7 a8 b6 b7 b8 : Int) (a1 a2 a3 b3 : Bool) (da ea : Option Addr) (dn en dc ec : Nat) (h : (a6 == b6) = false) (w : World) : Calls Try.prog 32 #[.agg #[.int .i64 a0, .bool a1, .bool a2, .bool a3, .int .i64 a4, .int .i64 a5, .int .i64 a6, .int .i64 a7, .int .i64 a8, .slice da dn dc], .agg #[.int .i64 a0, .bool a1, .bool a2, .bool b3, .int .i64 a4, .int .i64 a5, .int .i64 b6, .int .i64 b7, .int .i64 b8, .slice ea en ec]] w fun e w' => e = .returned (.bool false) ∧ Below w.heap.size w w' := by
  have BB := Lib.hid (balloc (balloc (brefl w) (.cells #[.int .i64 a0, .bool a1, .bool a2, .bool a3, .int .i64 a4, .int .i64 a5, .int .i64 a6, .int .i64 a7, .int .i64 a8, .slice da dn dc] 24)) (.cells #[.int .i64 a0, .bool a1, .bool a2, .bool b3, .int .i64 a4, .int .i64 a5, .int .i64 b6, .int .i64 b7, .int .i64 b8, .slice ea en ec] 24))
  go_enter Try.func32, Try.ntmps32
  go_wp2_with fail
  go_ret
  exact ⟨rfl, BB.out⟩
set_option maxRecDepth 100000 in
set_option maxHeartbeats 8000000 in
theorem isLike_w7 (a0 a4 a5 a6 a7 a8 b7 b8 : Int) (a1 a2 a3 b3 : Bool) (da ea : Option Addr) (dn en dc ec : Nat) (h : (a7 == b7) = false) (w : World) : Calls Try.prog 32 #[.agg #[.int .i64 a0, .bool a1, .bool a2, .bool a3, .int .i64 a4, .int .i64 a5, .int .i64 a6, .int .i64 a7, .int .i64 a8, .slice da dn dc], .agg #[.int .i64 a0, .bool a1, .bool a2, .bool b3, .int .i64 a4, .int .i64 a5, .int .i64 a6, .int .i64 b7, .int .i64 b8, .slice ea en ec]] w fun e w' => e = .returned (.bool false) ∧ Below w.heap.size w w' := by
  have BB := Lib.hid (balloc (balloc (brefl w) (.cells #[.int .i64 a0, .bool a1, .bool a2, .bool a3, .int .i64 a4, .int .i64 a5, .int .i64 a6, .int .i64 a7, .int .i64 a8, .slice da dn dc] 24)) (.cells #[.int .i64 a0, .bool a1, .bool a2, .bool b3, .int .i64 a4, .int .i64 a5, .int .i64 a6, .int .i64 b7, .int .i64 b8, .slice ea en ec] 24))
  go_enter Try.func32, Try.ntmps32
  go_wp2_with fail
  go_ret
  exact ⟨rfl, BB.out⟩
set_option maxRecDepth 100000 in
set_option maxHeartbeats 8000000 in
theorem isLike_wt (a0 a4 a5 a6 a7 a8 b8 : Int) (a1 a2 a3 b3 : Bool) (da ea : Option Addr) (dn en dc ec : Nat) (w : World) : Calls Try.prog 32 #[.agg #[.int .i64 a0, .bool a1, .bool a2, .bool a3, .int .i64 a4, .int .i64 a5, .int .i64 a6, .int .i64 a7, .int .i64 a8, .slice da dn dc], .agg #[.int .i64 a0, .bool a1, .bool a2, .bool b3, .int .i64 a4, .int .i64 a5, .int .i64 a6, .int .i64 a7, .int .i64 b8, .slice ea en ec]] w fun e w' => e = .returned (.bool true) ∧ Below w.heap.size w w' := by
  have BB := Lib.hid (balloc (balloc (brefl w) (.cells #[.int .i64 a0, .bool a1, .bool a2, .bool a3, .int .i64 a4, .int .i64 a5, .int .i64 a6, .int .i64 a7, .int .i64 a8, .slice da dn dc] 24)) (.cells #[.int .i64 a0, .bool a1, .bool a2, .bool b3, .int .i64 a4, .int .i64 a5, .int .i64 a6, .int .i64 a7, .int .i64 b8, .slice ea en ec] 24))
  go_enter Try.func32, Try.ntmps32
  go_wp2_with fail
  go_ret
  exact ⟨rfl, BB.out⟩
theorem isLike_c (f g : Fr) (da ea : Option Addr) (dc ec : Nat) (w : World) : Calls Try.prog 32 #[FV f (.slice da f.dat.length dc), FV g (.slice ea g.dat.length ec)] w fun e w' => e = .returned (.bool (like f g)) ∧ Below w.heap.size w w' := by
  obtain ⟨a0, a1, a2, a3, a4, a5, a6, a7, a8, x⟩ := f
  obtain ⟨b0, b1, b2, b3, b4, b5, b6, b7, b8, y⟩ := g
  by_cases h : a0 = b0
  case neg =>
    have e : like ⟨a0, a1, a2, a3, a4, a5, a6, a7, a8, x⟩ ⟨b0, b1, b2, b3, b4, b5, b6, b7, b8, y⟩ = false := by simp [like, h]
    rw [e]
    exact isLike_w0 a0 a4 a5 a6 a7 a8 b0 b4 b5 b6 b7 b8 a1 a2 a3 b1 b2 b3 da ea x.length y.length dc ec (beq_false_of_ne h) w
  subst h
  by_cases h : a1 = b1
  case neg =>
    have e : like ⟨a0, a1, a2, a3, a4, a5, a6, a7, a8, x⟩ ⟨a0, b1, b2, b3, b4, b5, b6, b7, b8, y⟩ = false := by simp [like, h]
    rw [e]
    exact isLike_w1 a0 a4 a5 a6 a7 a8 b4 b5 b6 b7 b8 a1 a2 a3 b1 b2 b3 da ea x.length y.length dc ec (beq_false_of_ne h) w
  subst h
  by_cases h : a2 = b2
  case neg =>
    have e : like ⟨a0, a1, a2, a3, a4, a5, a6, a7, a8, x⟩ ⟨a0, a1, b2, b3, b4, b5, b6, b7, b8, y⟩ = false := by simp [like, h]
    rw [e]
    exact isLike_w2 a0 a4 a5 a6 a7 a8 b4 b5 b6 b7 b8 a1 a2 a3 b2 b3 da ea x.length y.length dc ec (beq_false_of_ne h) w
  subst h
  by_cases h : a4 = b4
  case neg =>
    have e : like ⟨a0, a1, a2, a3, a4, a5, a6, a7, a8, x⟩ ⟨a0, a1, a2, b3, b4, b5, b6, b7, b8, y⟩ = false := by simp [like, h]
    rw [e]
    exact isLike_w4 a0 a4 a5 a6 a7 a8 b4 b5 b6 b7 b8 a1 a2 a3 b3 da ea x.length y.length dc ec (beq_false_of_ne h) w
  subst h
  by_cases h : a5 = b5
  case neg =>
    have e : like ⟨a0, a1, a2, a3, a4, a5, a6, a7, a8, x⟩ ⟨a0, a1, a2, b3, a4, b5, b6, b7, b8, y⟩ = false := by simp [like, h]
    rw [e]
    exact isLike_w5 a0 a4 a5 a6 a7 a8 b5 b6 b7 b8 a1 a2 a3 b3 da ea x.length y.length dc ec (beq_false_of_ne h) w
  subst h
  by_cases h : a6 = b6
  case neg =>
    have e : like ⟨a0, a1, a2, a3, a4, a5, a6, a7, a8, x⟩ ⟨a0, a1, a2, b3, a4, a5, b6, b7, b8, y⟩ = false := by simp [like, h]
    rw [e]
    exact isLike_w6 a0 a4 a5 a6 a7 a8 b6 b7 b8 a1 a2 a3 b3 da ea x.length y.length dc ec (beq_false_of_ne h) w
  subst h
  by_cases h : a7 = b7
  case neg =>
    have e : like ⟨a0, a1, a2, a3, a4, a5, a6, a7, a8, x⟩ ⟨a0, a1, a2, b3, a4, a5, a6, b7, b8, y⟩ = false := by simp [like, h]
    rw [e]
    exact isLike_w7 a0 a4 a5 a6 a7 a8 b7 b8 a1 a2 a3 b3 da ea x.length y.length dc ec (beq_false_of_ne h) w
  subst h
  have e : like ⟨a0, a1, a2, a3, a4, a5, a6, a7, a8, x⟩ ⟨a0, a1, a2, b3, a4, a5, a6, a7, b8, y⟩ = true := by simp [like]
  rw [e]
  exact isLike_wt a0 a4 a5 a6 a7 a8 b8 a1 a2 a3 b3 da ea x.length y.length dc ec w
set_option maxRecDepth 100000 in
set_option maxHeartbeats 8000000 in
theorem Like_w0 (a0 a4 a5 a6 a7 a8 b0 b4 b5 b6 b7 b8 : Int) (a1 a2 a3 b1 b2 b3 : Bool) (da ea : Option Addr) (dn en dc ec : Nat) (h : (a0 == b0) = false) (w : World) : Calls Try.prog 31 #[.agg #[.int .i64 a0, .bool a1, .bool a2, .bool a3, .int .i64 a4, .int .i64 a5, .int .i64 a6, .int .i64 a7, .int .i64 a8, .slice da dn dc], .agg #[.int .i64 b0, .bool b1, .bool b2, .bool b3, .int .i64 b4, .int .i64 b5, .int .i64 b6, .int .i64 b7, .int .i64 b8, .slice ea en ec]] w fun e w' => e = .returned (.bool false) ∧ Below w.heap.size w w' := by
  have BB := Lib.hid (balloc (balloc (brefl w) (.cells #[.int .i64 a0, .bool a1, .bool a2, .bool a3, .int .i64 a4, .int .i64 a5, .int .i64 a6, .int .i64 a7, .int .i64 a8, .slice da dn dc] 24)) (.cells #[.int .i64 b0, .bool b1, .bool b2, .bool b3, .int .i64 b4, .int .i64 b5, .int .i64 b6, .int .i64 b7, .int .i64 b8, .slice ea en ec] 24))
  go_enter Try.func31, Try.ntmps31
  go_wp2_with fail
  go_ret
  exact ⟨rfl, BB.out⟩
set_option maxRecDepth 100000 in
set_option maxHeartbeats 8000000 in
theorem Like_w1 (a0 a4 a5 a6 a7 a8 b4 b5 b6 b7 b8 : Int) (a1 a2 a3 b1 b2 b3 : Bool) (da ea : Option Addr) (dn en dc ec : Nat) (h : (a1 == b1) = false) (w : World) : Calls Try.prog 31 #[.agg #[.int .i64 a0, .bool a1, .bool a2, .bool a3, .int .i64 a4, .int .i64 a5, .int .i64 a6, .int .i64 a7, .int .i64 a8, .slice da dn dc], .agg #[.int .i64 a0, .bool b1, .bool b2, .bool b3, .int .i64 b4, .int .i64 b5, .int .i64 b6, .int .i64 b7, .int .i64 b8, .slice ea en ec]] w fun e w' => e = .returned (.bool false) ∧ Below w.heap.size w w' := by
  have BB := Lib.hid (balloc (balloc (brefl w) (.cells #[.int .i64 a0, .bool a1, .bool a2, .bool a3, .int .i64 a4, .int .i64 a5, .int .i64 a6, .int .i64 a7, .int .i64 a8, .slice da dn dc] 24)) (.cells #[.int .i64 a0, .bool b1, .bool b2, .bool b3, .int .i64 b4, .int .i64 b5, .int .i64 b6, .int .i64 b7, .int .i64 b8, .slice ea en ec] 24))
  go_enter Try.func31, Try.ntmps31
  go_wp2_with fail
  go_ret
  exact ⟨rfl, BB.out⟩
set_option maxRecDepth 100000 in
set_option maxHeartbeats 8000000 in
theorem Like_w2 (a0 a4 a5 a6 a7 a8 b4 b5 b6 b7 b8 : Int) (a1 a2 a3 b2 b3 : Bool) (da ea : Option Addr) (dn en dc ec : Nat) (h : (a2 == b2) = false) (w : World) : Calls Try.prog 31 #[.agg #[.int .i64 a0, .bool a1, .bool a2, .bool a3, .int .i64 a4, .int .i64 a5, .int .i64 a6, .int .i64 a7, .int .i64 a8, .slice da dn dc], .agg #[.int .i64 a0, .bool a1, .bool b2, .bool b3, .int .i64 b4, .int .i64 b5, .int .i64 b6, .int .i64 b7, .int .i64 b8, .slice ea en ec]] w fun e w' => e = .returned (.bool false) ∧ Below w.heap.size w w' := by
  have BB := Lib.hid (balloc (balloc (brefl w) (.cells #[.int .i64 a0, .bool a1, .bool a2, .bool a3, .int .i64 a4, .int .i64 a5, .int .i64 a6, .int .i64 a7, .int .i64 a8, .slice da dn dc] 24)) (.cells #[.int .i64 a0, .bool a1, .bool b2, .bool b3, .int .i64 b4, .int .i64 b5, .int .i64 b6, .int .i64 b7, .int .i64 b8, .slice ea en ec] 24))
  go_enter Try.func31, Try.ntmps31
  go_wp2_with fail
  go_ret
  exact ⟨rfl, BB.out⟩
set_option maxRecDepth 100000 in
set_option maxHeartbeats 8000000 in
theorem Like_w4 (a0 a4 a5 a6 a7 a8 b4 b5 b6 b7 b8 : Int) (a1 a2 a3 b3 : Bool) (da ea : Option Addr) (dn en dc ec : Nat) (h : (a4 == b4) = false) (w : World) : Calls Try.prog 31 #[.agg #[.int .i64 a0, .bool a1, .bool a2, .bool a3, .int .i64 a4, .int .i64 a5, .int .i64 a6, .int .i64 a7, .int .i64 a8, .slice da dn dc], .agg #[.int .i64 a0, .bool a1, .bool a2, .bool b3, .int .i64 b4, .int .i64 b5, .int .i64 b6, .int .i64 b7, .int .i64 b8, .slice ea en ec]] w fun e w' => e = .returned (.bool false) ∧ Below w.heap.size w w' := by
  have BB := Lib.hid (balloc (balloc (brefl w) (.cells #[.int .i64 a0, .bool a1, .bool a2, .bool a3, .int .i64 a4, .int .i64 a5, .int .i64 a6, .int .i64 a7, .int .i64 a8, .slice da dn dc] 24)) (.cells #[.int .i64 a0, .bool a1, .bool a2, .bool b3, .int .i64 b4, .int .i64 b5, .int .i64 b6, .int .i64 b7, .int .i64 b8, .slice ea en ec] 24))
  go_enter Try.func31, Try.ntmps31
  go_wp2_with fail
  go_ret
  exact ⟨rfl, BB.out⟩
set_option maxRecDepth 100000 in
set_option maxHeartbeats 8000000 in
theorem Like_w5 (a0 a4 a5 a6 a7 a8 b5 b6 b7 b8 : Int) (a1 a2 a3 b3 : Bool) (da ea : Option Addr) (dn en dc ec : Nat) (h : (a5 == b5) = false) (w : World) : Calls Try.prog 31 #[.agg #[.int .i64 a0, .bool a1, .bool a2, .bool a3, .int .i64 a4, .int .i64 a5, .int .i64 a6, .int .i64 a7, .int .i64 a8, .slice da dn dc], .agg #[.int .i64 a0, .bool a1, .bool a2, .bool b3, .int .i64 a4, .int .i64 b5, .int .i64 b6, .int .i64 b7, .int .i64 b8, .slice ea en ec]] w fun e w' => e = .returned (.bool false) ∧ Below w.heap.size w w' := by
  have BB := Lib.hid (balloc (balloc (brefl w) (.cells #[.int .i64 a0, .bool a1, .bool a2, .bool a3, .int .i64 a4, .int .i64 a5, .int .i64 a6, .int .i64 a7, .int .i64 a8, .slice da dn dc] 24)) (.cells #[.int .i64 a0, .bool a1, .bool a2, .bool b3, .int .i64 a4, .int .i64 b5, .int .i64 b6, .int .i64 b7, .int .i64 b8, .slice ea en ec] 24))
  go_enter Try.func31, Try.ntmps31
  go_wp2_with fail
  go_ret
  exact ⟨rfl, BB.out⟩
set_option maxRecDepth 100000 in
set_option maxHeartbeats 8000000 in
theorem Like_w6 (a0 a4 a5 a6 a7 a8 b6 b7 b8 : Int) (a1 a2 a3 b3 : Bool) (da ea : Option Addr) (dn en dc ec : Nat) (h : (a6 == b6) = false) (w : World) : Calls Try.prog 31 #[.agg #[.int .i64 a0, .bool a1, .bool a2, .bool a3, .int .i64 a4, .int .i64 a5, .int .i64 a6, .int .i64 a7, .int .i64 a8, .slice da dn dc], .agg #[.int .i64 a0, .bool a1, .bool a2, .bool b3, .int .i64 a4, .int .i64 a5, .int .i64 b6, .int .i64 b7, .int .i64 b8, .slice ea en ec]] w fun e w' => e = .returned (.bool false) ∧ Below w.heap.size w w' := by
  have BB := Lib.hid (balloc (balloc (brefl w) (.cells #[.int .i64 a0, .bool a1, .bool a2, .bool a3, .int .i64 a4, .int .i64 a5, .int .i64 a6, .int .i64 a7, .int .i64 a8, .slice da dn dc] 24)) (.cells #[.int .i64 a0, .bool a1, .bool a2, .bool b3, .int .i64 a4, .int .i64 a5, .int .i64 b6, .int .i64 b7, .int .i64 b8, .slice ea en ec] 24))
  go_enter Try.func31, Try.ntmps31
  go_wp2_with fail
  go_ret
  exact ⟨rfl, BB.out⟩
set_option maxRecDepth 100000 in
set_option maxHeartbeats 8000000 in
theorem Like_w7 (a0 a4 a5 a6 a7 a8 b7 b8 : Int) (a1 a2 a3 b3 : Bool) (da ea : Option Addr) (dn en dc ec : Nat) (h : (a7 == b7) = false) (w : World) : Calls Try.prog 31 #[.agg #[.int .i64 a0, .bool a1, .bool a2, .bool a3, .int .i64 a4, .int .i64 a5, .int .i64 a6, .int .i64 a7, .int .i64 a8, .slice da dn dc], .agg #[.int .i64 a0, .bool a1, .bool a2, .bool b3, .int .i64 a4, .int .i64 a5, .int .i64 a6, .int .i64 b7, .int .i64 b8, .slice ea en ec]] w fun e w' => e = .returned (.bool false) ∧ Below w.heap.size w w' := by
  have BB := Lib.hid (balloc (balloc (brefl w) (.cells #[.int .i64 a0, .bool a1, .bool a2, .bool a3, .int .i64 a4, .int .i64 a5, .int .i64 a6, .int .i64 a7, .int .i64 a8, .slice da dn dc] 24)) (.cells #[.int .i64 a0, .bool a1, .bool a2, .bool b3, .int .i64 a4, .int .i64 a5, .int .i64 a6, .int .i64 b7, .int .i64 b8, .slice ea en ec] 24))
  go_enter Try.func31, Try.ntmps31
  go_wp2_with fail
  go_ret
  exact ⟨rfl, BB.out⟩
set_option maxRecDepth 100000 in
set_option maxHeartbeats 8000000 in
theorem Like_wt (a0 a4 a5 a6 a7 a8 b8 : Int) (a1 a2 a3 b3 : Bool) (da ea : Option Addr) (dn en dc ec : Nat) (w : World) : Calls Try.prog 31 #[.agg #[.int .i64 a0, .bool a1, .bool a2, .bool a3, .int .i64 a4, .int .i64 a5, .int .i64 a6, .int .i64 a7, .int .i64 a8, .slice da dn dc], .agg #[.int .i64 a0, .bool a1, .bool a2, .bool b3, .int .i64 a4, .int .i64 a5, .int .i64 a6, .int .i64 a7, .int .i64 b8, .slice ea en ec]] w fun e w' => e = .returned (.bool true) ∧ Below w.heap.size w w' := by
  have BB := Lib.hid (balloc (balloc (brefl w) (.cells #[.int .i64 a0, .bool a1, .bool a2, .bool a3, .int .i64 a4, .int .i64 a5, .int .i64 a6, .int .i64 a7, .int .i64 a8, .slice da dn dc] 24)) (.cells #[.int .i64 a0, .bool a1, .bool a2, .bool b3, .int .i64 a4, .int .i64 a5, .int .i64 a6, .int .i64 a7, .int .i64 b8, .slice ea en ec] 24))
  go_enter Try.func31, Try.ntmps31
  go_wp2_with fail
  go_ret
  exact ⟨rfl, BB.out⟩
theorem Like_c (f g : Fr) (da ea : Option Addr) (dc ec : Nat) (w : World) : Calls Try.prog 31 #[FV f (.slice da f.dat.length dc), FV g (.slice ea g.dat.length ec)] w fun e w' => e = .returned (.bool (like f g)) ∧ Below w.heap.size w w' := by
  obtain ⟨a0, a1, a2, a3, a4, a5, a6, a7, a8, x⟩ := f
  obtain ⟨b0, b1, b2, b3, b4, b5, b6, b7, b8, y⟩ := g
  by_cases h : a0 = b0
  case neg =>
    have e : like ⟨a0, a1, a2, a3, a4, a5, a6, a7, a8, x⟩ ⟨b0, b1, b2, b3, b4, b5, b6, b7, b8, y⟩ = false := by simp [like, h]
    rw [e]
    exact Like_w0 a0 a4 a5 a6 a7 a8 b0 b4 b5 b6 b7 b8 a1 a2 a3 b1 b2 b3 da ea x.length y.length dc ec (beq_false_of_ne h) w
  subst h
  by_cases h : a1 = b1
  case neg =>
    have e : like ⟨a0, a1, a2, a3, a4, a5, a6, a7, a8, x⟩ ⟨a0, b1, b2, b3, b4, b5, b6, b7, b8, y⟩ = false := by simp [like, h]
    rw [e]
    exact Like_w1 a0 a4 a5 a6 a7 a8 b4 b5 b6 b7 b8 a1 a2 a3 b1 b2 b3 da ea x.length y.length dc ec (beq_false_of_ne h) w
  subst h
  by_cases h : a2 = b2
  case neg =>
    have e : like ⟨a0, a1, a2, a3, a4, a5, a6, a7, a8, x⟩ ⟨a0, a1, b2, b3, b4, b5, b6, b7, b8, y⟩ = false := by simp [like, h]
    rw [e]
    exact Like_w2 a0 a4 a5 a6 a7 a8 b4 b5 b6 b7 b8 a1 a2 a3 b2 b3 da ea x.length y.length dc ec (beq_false_of_ne h) w
  subst h
  by_cases h : a4 = b4
  case neg =>
    have e : like ⟨a0, a1, a2, a3, a4, a5, a6, a7, a8, x⟩ ⟨a0, a1, a2, b3, b4, b5, b6, b7, b8, y⟩ = false := by simp [like, h]
    rw [e]
    exact Like_w4 a0 a4 a5 a6 a7 a8 b4 b5 b6 b7 b8 a1 a2 a3 b3 da ea x.length y.length dc ec (beq_false_of_ne h) w
  subst h
  by_cases h : a5 = b5
  case neg =>
    have e : like ⟨a0, a1, a2, a3, a4, a5, a6, a7, a8, x⟩ ⟨a0, a1, a2, b3, a4, b5, b6, b7, b8, y⟩ = false := by simp [like, h]
    rw [e]
    exact Like_w5 a0 a4 a5 a6 a7 a8 b5 b6 b7 b8 a1 a2 a3 b3 da ea x.length y.length dc ec (beq_false_of_ne h) w
  subst h
  by_cases h : a6 = b6
  case neg =>
    have e : like ⟨a0, a1, a2, a3, a4, a5, a6, a7, a8, x⟩ ⟨a0, a1, a2, b3, a4, a5, b6, b7, b8, y⟩ = false := by simp [like, h]
    rw [e]
    exact Like_w6 a0 a4 a5 a6 a7 a8 b6 b7 b8 a1 a2 a3 b3 da ea x.length y.length dc ec (beq_false_of_ne h) w
  subst h
  by_cases h : a7 = b7
  case neg =>
    have e : like ⟨a0, a1, a2, a3, a4, a5, a6, a7, a8, x⟩ ⟨a0, a1, a2, b3, a4, a5, a6, b7, b8, y⟩ = false := by simp [like, h]
    rw [e]
    exact Like_w7 a0 a4 a5 a6 a7 a8 b7 b8 a1 a2 a3 b3 da ea x.length y.length dc ec (beq_false_of_ne h) w
  subst h
  have e : like ⟨a0, a1, a2, a3, a4, a5, a6, a7, a8, x⟩ ⟨a0, a1, a2, b3, a4, a5, a6, a7, b8, y⟩ = true := by simp [like]
  rw [e]
  exact Like_wt a0 a4 a5 a6 a7 a8 b8 a1 a2 a3 b3 da ea x.length y.length dc ec w
end Go.Proofs.Yteigmnbbfmcihaa.Ct
