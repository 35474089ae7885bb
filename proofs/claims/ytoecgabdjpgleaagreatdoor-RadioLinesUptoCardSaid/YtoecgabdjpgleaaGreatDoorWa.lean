/-
  Whole numbers: the contracts of sundialref07.digits and Number.
  Conditions: none.
  A text as a quoted word: the contract of sundialref07.Quote.
  Conditions: no more than 2^40 bytes.
  The characters of a line, as plain lists.
  Rows of strings that a call owns; the lines of a text: the contract of sundialref07.Lines.
  Conditions: no more than 2^40 bytes.
  Rows of words: what a call owns, what it reads.
-/
import Derived.Test.YtoecgabdjpgleaaGreatDoorProg
import Derived.WalkKit
import Derived.WalkLawsBesides
import Derived.Lib.Hide
import Derived.BigQuiet
import Derived.KernelRfl
import Derived.Test.YtoecgabdjpgleaaGreatDoorByA
import Derived.Lib.RuneCountTail
import Derived.Lib.TrimU
import Derived.Laws.Strings2
namespace Go.Proofs.YtoecgabdjpgleaaGreatDoor.Wd
open Go.RowKit
set_option linter.unusedVariables false
set_option linter.unusedSimpArgs false

/-- the byte at i. -/
def gn (s : ByteArray) (i : Nat) : Nat := (s.data.toList.getD i 0).toNat
theorem gn_at (s : ByteArray) (p : Nat) (h : p < s.size) : (s[p]'h).toNat = gn s p := by
  unfold gn
  have h' : p < s.data.toList.length := by rw [Array.length_toList]; exact h
  rw [List.getD_eq_getElem?_getD, List.getElem?_eq_getElem h', Option.getD_some, Array.getElem_toList]
  rfl
theorem gn_lt (s : ByteArray) (i : Nat) : gn s i < 256 := (s.data.toList.getD i 0).toNat_lt
theorem gn_set (s : ByteArray) (p : Nat) (h : p < s.size) : s.data.toList[p]? = some (s.data.toList.getD p 0) := by
  have h' : p < s.data.toList.length := by rw [Array.length_toList]; exact h
  rw [List.getD_eq_getElem?_getD, List.getElem?_eq_getElem h', Option.getD_some]
def dig (x : Nat) : Bool := decide (48 ≤ x) && decide (x ≤ 57)
def dgs (s : ByteArray) : Bool := (List.range s.size).all (fun i => dig (gn s i)) && decide (0 < s.size)

theorem dgs_no {s : ByteArray} {k : Nat} (h : k < s.size) (hd : dig (gn s k) = false) : dgs s = false := by
  cases h' : dgs s with
  | false => rfl
  | true =>
    simp only [dgs, Bool.and_eq_true, List.all_eq_true, List.mem_range] at h'
    rw [h'.1 k h] at hd; cases hd
theorem dgs_all {s : ByteArray} (h : ∀ i, i < s.size → dig (gn s i) = true) : dgs s = decide (0 < s.size) := by
  have : ((List.range s.size).all fun i => dig (gn s i)) = true := by simp only [List.all_eq_true, List.mem_range]; exact h
  rw [dgs, this, Bool.true_and]

/-- a whole number. -/
def wn (s : ByteArray) : Bool := dgs s && decide (s.size ≤ 10) && !(decide (1 < s.size) && decide (gn s 0 = 48))
def va (s : ByteArray) : Nat → Nat
  | 0 => 0
  | k + 1 => 10 * va s k + (gn s k - 48)
theorem va_lt {s : ByteArray} : ∀ k, (∀ i, i < k → dig (gn s i) = true) → va s k < 10 ^ k
  | 0, _ => by simp [va]
  | k + 1, h => by
    have a := va_lt k (fun i hi => h i (by omega))
    have b := h k (by omega)
    simp [dig] at b
    rw [va, Nat.pow_succ]
    omega
theorem wn_dig {s : ByteArray} (h : wn s = true) : (∀ i, i < s.size → dig (gn s i) = true) ∧ s.size ≤ 10 ∧ 0 < s.size := by
  simp [wn, dgs] at h
  exact ⟨h.1.1.1, h.1.2, h.1.1.2⟩
theorem va_lt10 {s : ByteArray} (h : wn s = true) {k : Nat} (hk : k ≤ s.size) : va s k < 10000000000 := by
  obtain ⟨h1, h2, _⟩ := wn_dig h
  have a := va_lt k (fun i hi => h1 i (by omega))
  have b : 10 ^ k ≤ 10 ^ 10 := Nat.pow_le_pow_right (by omega) (by omega)
  have c : (10 : Nat) ^ 10 = 10000000000 := by decide
  omega

end Go.Proofs.YtoecgabdjpgleaaGreatDoor.Wd
namespace Go.Proofs.YtoecgabdjpgleaaGreatDoor.Wd
open Go.ChangeShapes Go.WideShapes Go.ChangeAt Go.RowKit Go.Joins By
set_option linter.unusedVariables false
set_option linter.unusedSimpArgs false

def qOne (x : Nat) : List Nat := if x = 34 ∨ x = 92 then [92, x] else [x]
/-- the bytes of k bytes' quoting. -/
def qL (s : ByteArray) : Nat → List Nat
  | 0 => []
  | k + 1 => qL s k ++ qOne (gn s k)
theorem qL_len (s : ByteArray) : ∀ k, (qL s k).length ≤ 2 * k
  | 0 => by simp [qL]
  | k + 1 => by
    have := qL_len s k
    rw [qL, List.length_append]
    have : (qOne (gn s k)).length ≤ 2 := by unfold qOne; split <;> simp
    omega
theorem qL_byte (s : ByteArray) : ∀ k, ∀ x ∈ qL s k, x < 256
  | 0, x, h => by simp [qL] at h
  | k + 1, x, h => by
    rw [qL, List.mem_append] at h
    rcases h with h | h
    · exact qL_byte s k x h
    · unfold qOne at h
      split at h
      · simp at h
        rcases h with rfl | rfl
        · omega
        · exact gn_lt s k
      · simp at h
        rw [h]; exact gn_lt s k
theorem own_conv {w : World} {base : Nat} {v : Value} {l : List Nat} (h : Own w base v l) (h8 : ∀ x ∈ l, x < 256) : (convert 31 9 v).run Tryz.prog w = .ok (.string (bs8 l)) w := by
  by_cases hl : 0 < l.length
  · obtain ⟨g, cap, rfl, hb, B, h1, h2⟩ := h.bsC hl h8
    have c := conv_bs B cap
    rwa [bl_getD] at c
  · have e : l = [] := List.length_eq_zero_iff.1 (by omega)
    subst e
    rcases h.2 with ⟨rfl, _⟩ | ⟨g, cap, cur, rfl, _⟩
    · exact conv_zero w none 0
    · exact conv_zero w _ cap
def q1 : ByteArray := ⟨#[34]⟩

end Go.Proofs.YtoecgabdjpgleaaGreatDoor.Wd
namespace Go.Proofs.YtoecgabdjpgleaaGreatDoor.Wd
open Go.RowKit
set_option linter.unusedVariables false
set_option linter.unusedSimpArgs false

/-- the rune at i, and how many bytes it has. -/
def cr (s : ByteArray) (i : Nat) : Nat := (Utf8.decode s i).1
def cw (s : ByteArray) (i : Nat) : Nat := (Utf8.decode s i).2
theorem decodeN_le (n b0 b1 b2 b3 : Nat) (h : 1 ≤ n) : (Lib.decodeN n b0 b1 b2 b3).2 ≤ n := by
  unfold Lib.decodeN
  repeat' split
  all_goals (simp only; omega)
theorem cw_pos (s : ByteArray) (i : Nat) : 1 ≤ cw s i := Lib.width_pos s i
theorem cw_le (s : ByteArray) (i : Nat) (h : i < s.size) : i + cw s i ≤ s.size := by
  have := decodeN_le (s.size - i) (s.get! i).toNat (s.get! (i + 1)).toNat (s.get! (i + 2)).toNat (s.get! (i + 3)).toNat (by omega)
  rw [← Lib.decode_at] at this
  unfold cw
  omega
theorem cr_le (s : ByteArray) (i : Nat) : cr s i ≤ 1114111 := Lib.rune_le s i
/-- a wrong byte. -/
def wr1 (s : ByteArray) (i : Nat) : Bool := decide (cr s i = 65533) && decide (cw s i = 1)
/-- the characters from i on. -/
def chL (s : ByteArray) : Nat → Nat → List (ByteArray × Bool)
  | 0, _ => []
  | f + 1, i => if i < s.size then (s.extract i (i + cw s i), wr1 s i) :: chL s f (i + cw s i) else []
def chars (s : ByteArray) : List (ByteArray × Bool) := chL s s.size 0

/-- is it a blank? -/
def bl1 (s : ByteArray) : Bool := s.toList == [9] || s.toList == [32] || s.toList == [194, 160] || s.toList == [227, 128, 128]
end Go.Proofs.YtoecgabdjpgleaaGreatDoor.Wd
namespace Go.Proofs.YtoecgabdjpgleaaGreatDoor.Wd
open Go.ChangeShapes Go.WideShapes Go.ChangeAt Go.RowKit Go.Joins By
set_option linter.unusedVariables false
set_option linter.unusedSimpArgs false

theorem info_str : (Tryz.prog.info? 9).map (fun i => (i.zero, i.size, i.bytes)) = some (some (.string ⟨#[]⟩), 1, 16) := by kernel_rfl
theorem info_parts3 {i? : Option TypeInfo} {z : Value} {s b : Nat} (h : i?.map (fun i => (i.zero, i.size, i.bytes)) = some (some z, s, b)) : ∃ i, i? = some i ∧ i.zero = some z ∧ i.size = s ∧ i.bytes = b := by
  cases i? with
  | none => cases h
  | some i => simp at h; exact ⟨i, rfl, h.1, h.2.1, h.2.2⟩
def cs (l : List ByteArray) : List Value := l.map Value.string
theorem cs_len (l : List ByteArray) : (cs l).length = l.length := by simp [cs]
theorem cs_app (l k : List ByteArray) : cs (l ++ k) = cs l ++ cs k := by simp [cs]
theorem cs_one (l : List ByteArray) : ∀ u ∈ cs l, u.oneCell' = true := by
  intro u hu
  simp only [cs, List.mem_map] at hu
  obtain ⟨x, _, rfl⟩ := hu
  rfl
/-- v is a slice of the call's own that holds just these strings. -/
def OwnS (w : World) (base : Nat) (v : Value) (l : List ByteArray) : Prop := w.ownsRow base 9 1 v l.length (cs l)
theorem OwnS.nil (w : World) (base : Nat) : OwnS w base (.slice none 0 0) [] := World.ownsRow_nil w base _ 1
theorem OwnS.block {w : World} {base : Nat} {v : Value} {l : List ByteArray} (h : OwnS w base v l) : ∀ k, v.ownBlock = some k → base ≤ k := by
  intro k hk
  rcases h.2 with ⟨rfl, _⟩ | ⟨g, cap, cur, rfl, hb, _⟩
  · simp [Value.ownBlock] at hk
  · simp [Value.ownBlock] at hk
    omega
theorem appS {w : World} {base : Nat} {v : Value} {l : List ByteArray} (h : OwnS w base v l) (x : ByteArray) (hb : base ≤ w.heap.size) (hn : (l.length + 1) * 16 ≤ 140737488355328) (ty : TypeId) :
    ∃ v' w', (Builtin.append_ #[41, 41] ty #[v, .slice (some ⟨w.heap.size, 0, none⟩) 1 1]).run Tryz.prog (w.alloc (.cells #[.string x] 9)) = .ok v' w' ∧ OwnS w' base v' (l ++ [x]) ∧ Below base w w' ∧ w.heap.size ≤ w'.heap.size := by
  obtain ⟨i, hi, hz, hs, hby⟩ := info_parts3 info_str
  obtain ⟨v', w', hr, ho, hg, _, _⟩ := run_append_own_at (P := Tryz.prog) (w.alloc (.cells #[.string x] 9)) base 41 ty 9 i (.string ⟨#[]⟩) 1 16 Tryz.underlying41 hi hz hs hby rfl (by decide) v l.length (cs l) (World.ownsRow.alloc h _) ⟨w.heap.size, 0, none⟩ 1 1 (cs [x]) rfl
    (by intro j u hj; cases j with | zero => (simp [cs] at hj; subst hj; simp [Addr.add, go_sem]) | succ j => simp [cs] at hj) (cs_one _) (by unfold maxLen; omega) (by omega) (by simp; omega)
  have hB : Below base w (w.alloc (.cells #[.string x] 9)) := (Below.refl base w).alloc hb _
  have hB2 := hB.grown hg (by simp; omega) h.block
  refine ⟨v', w', hr, ?_, hB2, hB2.size⟩
  unfold OwnS
  rw [cs_app, List.length_append]
  exact ho

/-- a line from a to b, a byte 13 at its end left out. -/
def lnE (s : ByteArray) (a b : Nat) : Nat := if a < b ∧ gn s (b - 1) = 13 then b - 1 else b
def ln (s : ByteArray) (a b : Nat) : ByteArray := s.extract a (lnE s a b)
/-- behind k bytes: the lines, and where the next one begins. -/
def lS (s : ByteArray) : Nat → List ByteArray × Nat
  | 0 => ([], 0)
  | k + 1 => if gn s k = 10 then ((lS s k).1 ++ [ln s (lS s k).2 k], k + 1) else lS s k
theorem lS_le (s : ByteArray) : ∀ k, (lS s k).2 ≤ k ∧ (lS s k).1.length ≤ k
  | 0 => by simp [lS]
  | k + 1 => by
    have := lS_le s k
    rw [lS]
    split
    · simp; omega
    · omega
/-- the lines of a text. -/
def lines (s : ByteArray) : List ByteArray := if (lS s s.size).2 < s.size then (lS s s.size).1 ++ [ln s (lS s s.size).2 s.size] else (lS s s.size).1

end Go.Proofs.YtoecgabdjpgleaaGreatDoor.Wd
namespace Go.Proofs.YtoecgabdjpgleaaGreatDoor.Wd
open Go.ChangeShapes Go.WideShapes Go.ChangeAt Go.RowKit Go.Joins By
set_option linter.unusedVariables false
set_option linter.unusedSimpArgs false

/-- a word. -/
structure W3 where
  t : ByteArray
  c : Int
  q : Bool
def W3.val (x : W3) : Value := .agg #[.string x.t, .int .i64 x.c, .bool x.q]
def w3 : List W3 → List Value
  | [] => []
  | x :: l => .string x.t :: .int .i64 x.c :: .bool x.q :: w3 l
theorem w3_len : ∀ l, (w3 l).length = l.length * 3
  | [] => rfl
  | x :: l => by simp [w3, w3_len l]; omega
theorem w3_app : ∀ l k, w3 (l ++ k) = w3 l ++ w3 k
  | [], k => rfl
  | x :: l, k => by simp [w3, w3_app l k]
theorem w3_one : ∀ l, ∀ u ∈ w3 l, u.oneCell' = true
  | [], u, h => by simp [w3] at h
  | x :: l, u, h => by
    simp only [w3, List.mem_cons] at h
    rcases h with rfl | rfl | rfl | h
    · rfl
    · rfl
    · rfl
    · exact w3_one l u h
theorem info_word : (Tryz.prog.info? 64).map (fun i => (i.zero, i.size, i.bytes)) = some (some (.agg #[.string ⟨#[]⟩, .int .i64 0, .bool false]), 3, 32) := by kernel_rfl
/-- v is a slice of the call's own that holds just these words. -/
def OwnR (w : World) (base : Nat) (v : Value) (l : List W3) : Prop := w.ownsRow base 64 3 v l.length (w3 l)
theorem OwnR.nil (w : World) (base : Nat) : OwnR w base (.slice none 0 0) [] := World.ownsRow_nil w base _ 3
theorem OwnR.block {w : World} {base : Nat} {v : Value} {l : List W3} (h : OwnR w base v l) : ∀ k, v.ownBlock = some k → base ≤ k := by
  intro k hk
  rcases h.2 with ⟨rfl, _⟩ | ⟨g, cap, cur, rfl, hb, _⟩
  · simp [Value.ownBlock] at hk
  · simp [Value.ownBlock] at hk
    omega
theorem OwnR.below {w w' : World} {base : Nat} {v : Value} {l : List W3} (h : OwnR w base v l) (k : Below w.heap.size w w') : OwnR w' base v l := by
  obtain ⟨h1, h2⟩ := h
  refine ⟨h1, ?_⟩
  rcases h2 with h2 | ⟨g, cap, cur, hv, hb, hh, hr⟩
  · exact .inl h2
  · exact .inr ⟨g, cap, cur, hv, hb, by rw [k.block g (Array.getElem?_eq_some_iff.1 hh).1]; exact hh, hr⟩
theorem appR3 {w : World} {base : Nat} {v : Value} {l : List W3} (h : OwnR w base v l) (x : W3) (hb : base ≤ w.heap.size) (hn : (l.length + 1) * 32 ≤ 140737488355328) (ty : TypeId) :
    ∃ v' w', (Builtin.append_ #[57, 57] ty #[v, .slice (some ⟨w.heap.size, 0, none⟩) 1 1]).run Tryz.prog (w.alloc (.cells #[.string x.t, .int .i64 x.c, .bool x.q] 64)) = .ok v' w' ∧ OwnR w' base v' (l ++ [x]) ∧ Below base w w' ∧ w.heap.size ≤ w'.heap.size := by
  obtain ⟨i, hi, hz, hs, hby⟩ := info_parts3 info_word
  obtain ⟨v', w', hr, ho, hg, _, _⟩ := run_append_own_at (P := Tryz.prog) (w.alloc (.cells #[.string x.t, .int .i64 x.c, .bool x.q] 64)) base 57 ty 64 i (.agg #[.string ⟨#[]⟩, .int .i64 0, .bool false]) 3 32 Tryz.underlying57 hi hz hs hby rfl (by decide) v l.length (w3 l) (World.ownsRow.alloc h _) ⟨w.heap.size, 0, none⟩ 1 1 (w3 [x]) rfl
    (by
      intro j u hj
      match j, hj with
      | 0, hj => simp [w3] at hj; subst hj; simp [Addr.add, go_sem]
      | 1, hj => simp [w3] at hj; subst hj; simp [Addr.add, go_sem]
      | 2, hj => simp [w3] at hj; subst hj; simp [Addr.add, go_sem]
      | j + 3, hj => simp [w3] at hj) (w3_one _) (by unfold maxLen; omega) (by omega) (by simp; omega)
  have hB : Below base w (w.alloc (.cells #[.string x.t, .int .i64 x.c, .bool x.q] 64)) := (Below.refl base w).alloc hb _
  have hB2 := hB.grown hg (by simp; omega) h.block
  refine ⟨v', w', hr, ?_, hB2, hB2.size⟩
  unfold OwnR
  rw [w3_app, List.length_append]
  exact ho

/-- v is a slice, and its cells hold these words. -/
def Rw (w : World) (v : Value) (L : List W3) : Prop :=
  ∃ a cap, v = .slice a L.length cap ∧ L.length ≤ cap ∧ cap ≤ 9223372036854775807 ∧ (0 < L.length → ∃ b off, a = some ⟨b, off, none⟩ ∧ b < w.heap.size ∧ ∀ j x, L[j]? = some x → w.cell? ⟨b, off + j * 3, none⟩ = some (.string x.t) ∧ w.cell? ⟨b, off + j * 3 + 1, none⟩ = some (.int .i64 x.c) ∧ w.cell? ⟨b, off + j * 3 + 2, none⟩ = some (.bool x.q))
theorem Rw.below {w w' : World} {v : Value} {L : List W3} (h : Rw w v L) (q : Below w.heap.size w w') : Rw w' v L := by
  obtain ⟨a, cap, e, h1, h2, h3⟩ := h
  exact ⟨a, cap, e, h1, h2, fun hn => by obtain ⟨b, off, ea, hb, B⟩ := h3 hn; exact ⟨b, off, ea, Nat.lt_of_lt_of_le hb q.size, fun j x hj => ⟨(q.cell (p := ⟨b, _, none⟩) hb).trans (B j x hj).1, (q.cell (p := ⟨b, _, none⟩) hb).trans (B j x hj).2.1, (q.cell (p := ⟨b, _, none⟩) hb).trans (B j x hj).2.2⟩⟩⟩
theorem w3_at : ∀ (L : List W3) (j : Nat) (x : W3), L[j]? = some x → (w3 L)[j * 3]? = some (.string x.t) ∧ (w3 L)[j * 3 + 1]? = some (.int .i64 x.c) ∧ (w3 L)[j * 3 + 2]? = some (.bool x.q)
  | [], j, x, h => by simp at h
  | y :: L, 0, x, h => by simp at h; subst h; simp [w3]
  | y :: L, j + 1, x, h => by
    have := w3_at L j x (by simpa using h)
    rw [show (j + 1) * 3 = j * 3 + 1 + 1 + 1 from by omega]
    simpa [w3] using this
theorem OwnR.rw {w : World} {base : Nat} {v : Value} {L : List W3} (h : OwnR w base v L) : Rw w v L := by
  obtain ⟨h1, h2⟩ := h
  rcases h2 with ⟨rfl, h0⟩ | ⟨g, cap, cur, rfl, hb, hh, hc, hm, hs, ht⟩
  · exact ⟨none, 0, by rw [h0], by omega, by omega, fun hn => by omega⟩
  · refine ⟨_, cap, rfl, hc, by unfold maxLen at hm; omega, fun hn => ⟨g, 0, rfl, (Array.getElem?_eq_some_iff.1 hh).1, fun j x hj => ?_⟩⟩
    have hl : j < L.length := (List.getElem?_eq_some_iff.1 hj).1
    have := w3_at L j x hj
    rw [← ht, List.getElem?_take_of_lt (by omega), List.getElem?_take_of_lt (by omega), List.getElem?_take_of_lt (by omega)] at this
    simp only [Array.getElem?_toList] at this
    simp [World.cell?, hh, this]

end Go.Proofs.YtoecgabdjpgleaaGreatDoor.Wd
