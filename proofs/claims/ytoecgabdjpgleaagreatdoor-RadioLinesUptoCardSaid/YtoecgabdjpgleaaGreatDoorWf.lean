/-
  The contracts of strings.Cut at one byte and of words.Seconds.
  Conditions: none.
  The contract of words.Lines.
  Conditions: no more than 2^40 bytes.
  Rows of strings that are read.
-/
import Derived.Test.YtoecgabdjpgleaaGreatDoorWe
import Derived.BigQuiet
namespace Go.Proofs.YtoecgabdjpgleaaGreatDoor.Wd
open Go.ChangeShapes Go.WideShapes Go.ChangeAt Go.RowKit Go.Joins By
set_option linter.unusedVariables false
set_option linter.unusedSimpArgs false

theorem ixb (c : UInt8) : ∀ l : List UInt8, (Lib.indexByte l c = -1 ∧ ∀ j, j < l.length → l.getD j 0 ≠ c) ∨ ∃ i : Nat, i < l.length ∧ Lib.indexByte l c = (i : Int) ∧ l.getD i 0 = c ∧ ∀ j, j < i → l.getD j 0 ≠ c
  | [] => .inl ⟨rfl, fun j h => absurd h (Nat.not_lt_zero _)⟩
  | x :: l => by
    by_cases e : x = c
    · refine .inr ⟨0, by simp, by simp [Lib.indexByte, e], by simp [e], fun j h => absurd h (Nat.not_lt_zero _)⟩
    · rcases ixb c l with ⟨h1, h2⟩ | ⟨i, h0, h1, h2, h3⟩
      · refine .inl ⟨by simp [Lib.indexByte, e, h1], fun j hj => ?_⟩
        cases j with
        | zero => simpa using e
        | succ j => simpa using h2 j (by simpa using hj)
      · refine .inr ⟨i + 1, by simpa using h0, by simp [Lib.indexByte, e, h1], by simpa using h2, fun j hj => ?_⟩
        cases j with
        | zero => simpa using e
        | succ j => simpa using h3 j (by omega)
/-- where a byte stands first, or the length. -/
def di (s : ByteArray) (c : UInt8) : Nat := if Lib.indexByte s.data.toList c = -1 then s.size else (Lib.indexByte s.data.toList c).toNat
theorem gn_ne {s : ByteArray} {c : UInt8} {j : Nat} (h : s.data.toList.getD j 0 ≠ c) : gn s j ≠ c.toNat := fun e => h (UInt8.toNat_inj.1 e)
theorem di_spec (s : ByteArray) (c : UInt8) : (Lib.indexByte s.data.toList c = -1 ∧ di s c = s.size ∧ ∀ j, j < s.size → gn s j ≠ c.toNat) ∨ (Lib.indexByte s.data.toList c = (di s c : Int) ∧ di s c < s.size ∧ gn s (di s c) = c.toNat ∧ ∀ j, j < di s c → gn s j ≠ c.toNat) := by
  have hl : s.data.toList.length = s.size := by rw [Array.length_toList]; rfl
  rcases ixb c s.data.toList with ⟨h1, h2⟩ | ⟨i, h0, h1, h2, h3⟩
  · exact .inl ⟨h1, by rw [di, if_pos h1], fun j hj => gn_ne (h2 j (by omega))⟩
  · have hd : di s c = i := by rw [di, if_neg (by omega), h1]; rfl
    rw [hd]
    exact .inr ⟨h1, by omega, by rw [gn, h2], fun j hj => gn_ne (h3 j hj)⟩
def cutA (s : ByteArray) (c : UInt8) : ByteArray := s.extract 0 (di s c)
def cutB (s : ByteArray) (c : UInt8) : ByteArray := s.extract (di s c + 1) s.size
def cutF (s : ByteArray) (c : UInt8) : Bool := decide (di s c < s.size)
theorem ext_all (s : ByteArray) : s.extract 0 s.size = s := by
  apply ByteArray.ext
  have : (s.extract 0 s.size).data.toList = s.data.toList := by
    rw [Lib.extract_data]
    simp
    apply List.take_of_length_le
    rw [Array.length_toList]
    exact Nat.le_refl _
  exact Array.toList_inj.1 this
theorem ext_none (s : ByteArray) (n : Nat) : s.extract (n + 1) n = ⟨#[]⟩ := by
  apply ByteArray.ext
  have : (s.extract (n + 1) n).data.toList = [] := by
    rw [Lib.extract_data]
    simp
  apply Array.toList_inj.1
  rw [this]

set_option maxRecDepth 100000 in
set_option maxHeartbeats 2000000 in
theorem liteCut_c (s : ByteArray) (c : UInt8) (w : World) (hs : s.size ≤ 9223372036854775807) :
    Calls Tryz.prog 68 #[.string s, .string ⟨#[c]⟩] w fun e w' => e = .returned (.tuple #[.string (cutA s c), .string (cutB s c), .bool (cutF s c)]) ∧ Below w.heap.size w w' := by
  have IC := Tryz.stringslite_Index_one s c w
  have z1 : (⟨#[c]⟩ : ByteArray).size = 1 := rfl
  rcases di_spec s c with ⟨h1, h2, _⟩ | ⟨h1, h2, _⟩
  · rw [h1] at IC
    have HA : Hid (cutA s c = s) := Lib.hid (by rw [cutA, h2, ext_all])
    have HB : Hid (cutB s c = ⟨#[]⟩) := Lib.hid (by rw [cutB, h2, ext_none])
    have HF : Hid (cutF s c = false) := Lib.hid (by rw [cutF, h2, decide_eq_false (Nat.lt_irrefl _)])
    rw [HA.out, HB.out, HF.out]
    clear h1 h2 HA HB HF
    go_enter Tryz.func68, Tryz.ntmps68
    go_wp2_with fail
    refine IC.mono ?_
    rintro e w' ⟨rfl, rfl⟩
    go_wp2_with fail
    exact bodyPost_ret (v := .tuple #[.string s, .string ⟨#[]⟩, .bool false]) (by simp [results, Tryz.results68, go_sem]) rfl ⟨rfl, brefl _⟩
  · rw [h1] at IC
    have HA : Hid (s.extract 0 (di s c) = cutA s c) := Lib.hid rfl
    have HB : Hid (s.extract (di s c + 1) s.size = cutB s c) := Lib.hid rfl
    have HF : Hid (cutF s c = true) := Lib.hid (by rw [cutF, decide_eq_true h2])
    rw [HF.out, ← HA.out, ← HB.out]
    generalize di s c = d at *
    have d0 : (0 : Int) ≤ (d : Int) := by omega
    have d1 : (d : Int) ≤ (s.size : Int) := by omega
    have d2 : (d : Int) + 1 ≤ (s.size : Int) := by omega
    have dn : ((d : Int) + 1).toNat = d + 1 := by omega
    have e1 : decide (0 ≤ (d : Int)) = true := decide_eq_true d0
    clear h1 HA HB HF
    go_enter Tryz.func68, Tryz.ntmps68
    go_wp2_with fail
    refine IC.mono ?_
    rintro e w' ⟨rfl, rfl⟩
    go_wp2_with fail
    go_quiet (fail)
    go_wp2_with fail
    exact bodyPost_ret (v := .tuple #[.string (s.extract 0 d), .string (s.extract (d + 1) s.size), .bool true]) (by simp [results, Tryz.results68, go_sem]) rfl ⟨rfl, bdrew (brefl _) nq⟩
set_option maxRecDepth 100000 in
set_option maxHeartbeats 2000000 in
theorem Cut_c (s : ByteArray) (c : UInt8) (w : World) (hs : s.size ≤ 9223372036854775807) :
    Calls Tryz.prog 41 #[.string s, .string ⟨#[c]⟩] w fun e w' => e = .returned (.tuple #[.string (cutA s c), .string (cutB s c), .bool (cutF s c)]) ∧ Below w.heap.size w w' := by
  have IC := liteCut_c s c w hs
  go_enter Tryz.func41, Tryz.ntmps41
  go_wp2_with fail
  refine IC.mono ?_
  rintro e w' ⟨rfl, hb⟩
  go_wp2_with fail
  exact bodyPost_ret (v := .tuple #[.string (cutA s c), .string (cutB s c), .bool (cutF s c)]) (by simp [results, Tryz.results41, go_sem]) rfl ⟨rfl, hb⟩
end Go.Proofs.YtoecgabdjpgleaaGreatDoor.Wd
namespace Go.Proofs.YtoecgabdjpgleaaGreatDoor.Wd
open Go.ChangeShapes Go.WideShapes Go.ChangeAt Go.RowKit Go.Joins By
set_option linter.unusedVariables false
set_option linter.unusedSimpArgs false

/-- a byte 13 at a line's end left out. -/
def trimR (x : ByteArray) : ByteArray := ⟨(Lib.trimSuffix x.data.toList [13]).toArray⟩
/-- the lines of a text, one behind the other. -/
def lnsF : Nat → ByteArray → List ByteArray
  | 0, _ => []
  | f + 1, t => if t.size = 0 then [] else trimR (cutA t 10) :: lnsF f (cutB t 10)
theorem suf_one (l : List UInt8) (x : UInt8) : Lib.hasSuffix (l ++ [x]) [13] = (x == 13) := by
  unfold Lib.hasSuffix
  rw [Bool.eq_iff_iff, List.isSuffixOf_iff_suffix, beq_iff_eq]
  constructor
  · rintro ⟨t, h⟩
    have := congrArg List.getLast? h
    simp at this
    exact this.symm
  · rintro rfl
    exact ⟨l, rfl⟩
theorem trim_last (l : List UInt8) (x : UInt8) : Lib.trimSuffix (l ++ [x]) [13] = if x = 13 then l else l ++ [x] := by
  unfold Lib.trimSuffix
  rw [suf_one]
  by_cases h : x = 13
  · subst h
    simp
  · rw [if_neg h, if_neg (by simpa using h)]
theorem ext_list (s : ByteArray) (a b : Nat) : (s.extract a b).data.toList = (s.data.toList.drop a).take (b - a) := Lib.extract_data s a b
theorem list_eq {a b : ByteArray} (h : a.data.toList = b.data.toList) : a = b := ByteArray.ext (Array.toList_inj.1 h)
theorem trim_ext (s : ByteArray) (a b : Nat) (hab : a ≤ b) (hb : b ≤ s.size) : trimR (s.extract a b) = ln s a b := by
  have hl : s.data.toList.length = s.size := by rw [Array.length_toList]; rfl
  apply list_eq
  show (Lib.trimSuffix (s.extract a b).data.toList [13]).toArray.toList = _
  rw [List.toList_toArray]
  by_cases c : a < b
  · obtain ⟨q, rfl⟩ : ∃ q, b = q + 1 := ⟨b - 1, by omega⟩
    have e : (s.extract a (q + 1)).data.toList = (s.extract a q).data.toList ++ [s.data.toList.getD q 0] := by
      rw [ext_list, ext_list, show q + 1 - a = (q - a) + 1 from by omega, List.take_add_one]
      congr 1
      rw [List.getElem?_drop, show a + (q - a) = q from by omega, List.getD_eq_getElem?_getD, List.getElem?_eq_getElem (by omega)]
      rfl
    rw [e, trim_last, ln, lnE]
    simp only [Nat.add_sub_cancel]
    by_cases h : s.data.toList.getD q 0 = 13
    · rw [if_pos h, if_pos ⟨c, by rw [gn, h]; rfl⟩]
    · rw [if_neg h, if_neg (fun x => h (UInt8.toNat_inj.1 x.2)), e]
  · obtain rfl : a = b := by omega
    have e : (s.extract a a).data.toList = [] := by rw [ext_list]; simp
    rw [e, ln, lnE, if_neg (fun h => c h.1), e]
    rfl
theorem lS_skip (s : ByteArray) (a : Nat) : ∀ k, (∀ j, a ≤ j → j < a + k → gn s j ≠ 10) → lS s (a + k) = lS s a
  | 0, _ => rfl
  | k + 1, h => by
    rw [show a + (k + 1) = (a + k) + 1 from rfl, lS, if_neg (h (a + k) (by omega) (by omega))]
    exact lS_skip s a k (fun j h1 h2 => h j h1 (by omega))
theorem gn_tail (s : ByteArray) (a i : Nat) (h : a + i < s.size) : gn (s.extract a s.size) i = gn s (a + i) := by
  unfold gn
  rw [ext_list, List.getD_eq_getElem?_getD, List.getElem?_take_of_lt (by omega), List.getElem?_drop, ← List.getD_eq_getElem?_getD]
theorem ext_ext (s : ByteArray) (a b c : Nat) (h : a + c ≤ s.size) : (s.extract a s.size).extract b c = s.extract (a + b) (a + c) := by
  apply list_eq
  have hl : s.data.toList.length = s.size := by rw [Array.length_toList]; rfl
  have e : (s.data.toList.drop a).take (s.size - a) = s.data.toList.drop a := List.take_of_length_le (by rw [List.length_drop]; omega)
  rw [ext_list, ext_list, ext_list, e, List.drop_drop]
  congr 1
  omega
theorem lines_eq (s : ByteArray) : ∀ f a, a ≤ s.size → s.size ≤ a + f → (lS s a).2 = a → lines s = (lS s a).1 ++ lnsF f (s.extract a s.size)
  | 0, a, ha, hf, h2 => by
    obtain rfl : a = s.size := by omega
    rw [lines, if_neg (by omega), lnsF, List.append_nil]
  | f + 1, a, ha, hf, h2 => by
    have sz : (s.extract a s.size).size = s.size - a := by rw [ByteArray.size_extract]; omega
    rw [lnsF, sz]
    by_cases c : s.size - a = 0
    · obtain rfl : a = s.size := by omega
      rw [if_pos c, lines, if_neg (by omega), List.append_nil]
    · rw [if_neg c]
      have c10 : (10 : UInt8).toNat = 10 := rfl
      rcases di_spec (s.extract a s.size) 10 with ⟨_, e1, e2⟩ | ⟨_, e1, e2, e3⟩
      · rw [sz, c10] at e2
        rw [sz] at e1
        have sk := lS_skip s a (s.size - a) (fun j h1 h3 => by
          have := e2 (j - a) (by omega)
          rw [gn_tail s a (j - a) (by omega), show a + (j - a) = j from by omega] at this
          exact this)
        rw [show a + (s.size - a) = s.size from by omega] at sk
        have A : cutA (s.extract a s.size) 10 = s.extract a s.size := by rw [cutA, e1, ← sz, ext_all]
        have B : cutB (s.extract a s.size) 10 = ⟨#[]⟩ := by rw [cutB, e1, ← sz, ext_none]
        have L0 : lnsF f ⟨#[]⟩ = [] := by
          cases f with
          | zero => rfl
          | succ f => rw [lnsF]; rfl
        rw [A, B, L0, lines, sk, h2, if_pos (by omega), trim_ext s a s.size ha (Nat.le_refl _)]
      · rw [sz] at e1
        rw [c10] at e2 e3
        generalize hd : di (s.extract a s.size) 10 = d at *
        have sk := lS_skip s a d (fun j h1 h3 => by
          have := e3 (j - a) (by omega)
          rw [gn_tail s a (j - a) (by omega), show a + (j - a) = j from by omega] at this
          exact this)
        rw [gn_tail s a d (by omega)] at e2
        have st : lS s (a + d + 1) = ((lS s a).1 ++ [ln s a (a + d)], a + d + 1) := by rw [lS, if_pos e2, sk, h2]
        have A : cutA (s.extract a s.size) 10 = s.extract a (a + d) := by rw [cutA, hd, ext_ext s a 0 d (by omega), Nat.add_zero]
        have B : cutB (s.extract a s.size) 10 = s.extract (a + d + 1) s.size := by
          rw [cutB, hd, sz, ext_ext s a (d + 1) (s.size - a) (by omega), show a + (s.size - a) = s.size from by omega]
          rfl
        have ih := lines_eq s f (a + d + 1) (by omega) (by omega) (by rw [st])
        rw [ih, st, A, B, trim_ext s a (a + d) (by omega) (by omega), List.append_assoc]
        rfl
theorem lines_all (s : ByteArray) : lnsF s.size s = lines s := by
  have := lines_eq s s.size 0 (Nat.zero_le _) (by omega) rfl
  rw [this, ext_all]
  rfl

theorem ownS_below {w w' : World} {base : Nat} {v : Value} {l : List ByteArray} (h : OwnS w base v l) (k : Below w.heap.size w w') : OwnS w' base v l := by
  obtain ⟨h1, h2⟩ := h
  refine ⟨h1, ?_⟩
  rcases h2 with h2 | ⟨g, cap, cur, hv, hb, hh, hr⟩
  · exact .inl h2
  · exact .inr ⟨g, cap, cur, hv, hb, by rw [k.block g (Array.getElem?_eq_some_iff.1 hh).1]; exact hh, hr⟩
theorem ownS_form {w : World} {base : Nat} {v : Value} {l : List ByteArray} (h : OwnS w base v l) : ∃ a cap, v = .slice a l.length cap := by
  rcases h.2 with ⟨hv, h0⟩ | ⟨g, cap, cur, hv, _⟩
  · exact ⟨none, 0, by rw [hv, h0]⟩
  · exact ⟨_, cap, hv⟩
end Go.Proofs.YtoecgabdjpgleaaGreatDoor.Wd
namespace Go.Proofs.YtoecgabdjpgleaaGreatDoor.Wd
open Go.ChangeShapes Go.WideShapes Go.ChangeAt Go.RowKit Go.Joins By
set_option linter.unusedVariables false
set_option linter.unusedSimpArgs false

/-- v is a slice, and its cells hold these strings. -/
def Rs (w : World) (v : Value) (L : List ByteArray) : Prop :=
  ∃ a cap, v = .slice a L.length cap ∧ L.length ≤ cap ∧ cap ≤ 9223372036854775807 ∧ (0 < L.length → ∃ b off, a = some ⟨b, off, none⟩ ∧ b < w.heap.size ∧ ∀ j x, L[j]? = some x → w.cell? ⟨b, off + j, none⟩ = some (.string x))
theorem Rs.below {w w' : World} {v : Value} {L : List ByteArray} (h : Rs w v L) (q : Below w.heap.size w w') : Rs w' v L := by
  obtain ⟨a, cap, e, h1, h2, h3⟩ := h
  exact ⟨a, cap, e, h1, h2, fun hn => by obtain ⟨b, off, ea, hb, B⟩ := h3 hn; exact ⟨b, off, ea, Nat.lt_of_lt_of_le hb q.size, fun j x hj => (q.cell (p := ⟨b, _, none⟩) hb).trans (B j x hj)⟩⟩
theorem cs_at (L : List ByteArray) (j : Nat) (x : ByteArray) (h : L[j]? = some x) : (cs L)[j]? = some (.string x) := by simp [cs, h]
theorem OwnS.rs {w : World} {base : Nat} {v : Value} {L : List ByteArray} (h : OwnS w base v L) : Rs w v L := by
  obtain ⟨h1, h2⟩ := h
  rcases h2 with ⟨rfl, h0⟩ | ⟨g, cap, cur, rfl, hb, hh, hc, hm, hs, ht⟩
  · exact ⟨none, 0, by rw [h0], by omega, by omega, fun hn => by omega⟩
  · refine ⟨_, cap, rfl, hc, by unfold maxLen at hm; omega, fun hn => ⟨g, 0, rfl, (Array.getElem?_eq_some_iff.1 hh).1, fun j x hj => ?_⟩⟩
    have hl : j < L.length := (List.getElem?_eq_some_iff.1 hj).1
    have := cs_at L j x hj
    rw [← ht, List.getElem?_take_of_lt (by omega)] at this
    simp only [Array.getElem?_toList] at this
    simp [World.cell?, hh, this]
end Go.Proofs.YtoecgabdjpgleaaGreatDoor.Wd
