/-
  strings.Cut at one byte, at this translation.
  Conditions: none.
-/
import Derived.Test.YtkjolaoajbdomaaGreatDoorByA
import Derived.Shelf.Strings.Search1
import Derived.Shelf.Strings.Search2
import Derived.BigQuiet
namespace Go.Proofs.YtkjolaoajbdomaaGreatDoor.Hi
open Go.Shelf Go.ChangeShapes Go.WideShapes Go.ChangeAt Go.RowKit Go.Joins By
set_option linter.unusedVariables false
set_option linter.unusedSimpArgs false

def cutL_ren : Go.Shelf.Ren := ⟨fun | 219 => 96 | 217 => 114 | 225 => 115 | 224 => 116 | 267 => 117 | 266 => 123 | 314 => 124 | n => n, fun | 9 => 9 | 3 => 3 | 4 => 4 | 5 => 5 | 46 => 110 | 146 => 165 | 51 => 94 | n => n, fun | 1 => 3 | n => n⟩
theorem cutL : Go.Proofs.Lays.n219 Tryz.prog cutL_ren := {
  mixed := by kernel_rfl
  f217 := Tryz.func114.trans (congrArg some (by kernel_rfl))
  f219 := Tryz.func96.trans (congrArg some (by kernel_rfl))
  f224 := Tryz.func116.trans (congrArg some (by kernel_rfl))
  f225 := Tryz.func115.trans (congrArg some (by kernel_rfl))
  f266 := Tryz.func123.trans (congrArg some (by kernel_rfl))
  f267 := Tryz.func117.trans (congrArg some (by kernel_rfl))
  f314 := Tryz.func124.trans (congrArg some (by kernel_rfl))
  t3 := Tryz.underlying3
  a3 := Tryz.isAgg3
  z3 := Tryz.sizeOf3
  v3 := Tryz.zeroValue3
  t4 := Tryz.underlying4
  a4 := Tryz.isAgg4
  z4 := Tryz.sizeOf4
  v4 := Tryz.zeroValue4
  t5 := Tryz.underlying5
  a5 := Tryz.isAgg5
  z5 := Tryz.sizeOf5
  v5 := Tryz.zeroValue5
  t9 := Tryz.underlying9
  a9 := Tryz.isAgg9
  z9 := Tryz.sizeOf9
  v9 := Tryz.zeroValue9
  t46 := Tryz.underlying110
  a46 := Tryz.isAgg110
  z46 := Tryz.sizeOf110
  v46 := Tryz.zeroValue110
  t51 := Tryz.underlying94
  a51 := Tryz.isAgg94
  z51 := Tryz.sizeOf94
  v51 := Tryz.zeroValue94
  t146 := Tryz.underlying165
  a146 := Tryz.isAgg165
  z146 := Tryz.sizeOf165
  v146 := Tryz.zeroValue165
  g1 := by kernel_rfl }
open Go.RowKit Go.Lib in
theorem Index_one (s : ByteArray) (c : UInt8) (w : World) :
    Calls Tryz.prog 96 #[.string s, .string ⟨#[c]⟩] w fun e w' => e = .returned (.int .i64 (Lib.indexByte s.data.toList c)) ∧ w' = w := Any.stringslite_Index_one cutL s c w
def gn (s : ByteArray) (i : Nat) : Nat := (s.data.toList.getD i 0).toNat
theorem ixb (c : UInt8) : ∀ l : List UInt8, (Lib.indexByte l c = -1 ∧ ∀ j, j < l.length → l.getD j 0 ≠ c) ∨ ∃ i : Nat, i < l.length ∧ Lib.indexByte l c = (i : Int) ∧ l.getD i 0 = c ∧ ∀ j, j < i → l.getD j 0 ≠ c
  | [] => .inl ⟨rfl, fun j h => absurd h (Nat.not_lt_zero _)⟩
  | x :: l => by
    by_cases e : x = c
    · refine .inr ⟨0, by simp, by simp [Lib.indexByte, e], by simp [e], fun j h => absurd h (Nat.not_lt_zero _)⟩
    · rcases ixb c l with ⟨h1, h2⟩ | ⟨i, h0, h1, h2, h3⟩
      · refine .inl ⟨by simp [Lib.indexByte, e, h1], fun j hj => ?_⟩
        cases j with
        | zero => simpa using e
        | succ j => simpa using h2 j (by simpa using hj)
      · refine .inr ⟨i + 1, by simpa using h0, by simp [Lib.indexByte, e, h1], by simpa using h2, fun j hj => ?_⟩
        cases j with
        | zero => simpa using e
        | succ j => simpa using h3 j (by omega)
/-- where a byte stands first, or the length. -/
def di (s : ByteArray) (c : UInt8) : Nat := if Lib.indexByte s.data.toList c = -1 then s.size else (Lib.indexByte s.data.toList c).toNat
theorem gn_ne {s : ByteArray} {c : UInt8} {j : Nat} (h : s.data.toList.getD j 0 ≠ c) : gn s j ≠ c.toNat := fun e => h (UInt8.toNat_inj.1 e)
theorem di_spec (s : ByteArray) (c : UInt8) : (Lib.indexByte s.data.toList c = -1 ∧ di s c = s.size ∧ ∀ j, j < s.size → gn s j ≠ c.toNat) ∨ (Lib.indexByte s.data.toList c = (di s c : Int) ∧ di s c < s.size ∧ gn s (di s c) = c.toNat ∧ ∀ j, j < di s c → gn s j ≠ c.toNat) := by
  have hl : s.data.toList.length = s.size := by rw [Array.length_toList]; rfl
  rcases ixb c s.data.toList with ⟨h1, h2⟩ | ⟨i, h0, h1, h2, h3⟩
  · exact .inl ⟨h1, by rw [di, if_pos h1], fun j hj => gn_ne (h2 j (by omega))⟩
  · have hd : di s c = i := by rw [di, if_neg (by omega), h1]; rfl
    rw [hd]
    exact .inr ⟨h1, by omega, by rw [gn, h2], fun j hj => gn_ne (h3 j hj)⟩
def cutA (s : ByteArray) (c : UInt8) : ByteArray := s.extract 0 (di s c)
def cutB (s : ByteArray) (c : UInt8) : ByteArray := s.extract (di s c + 1) s.size
def cutF (s : ByteArray) (c : UInt8) : Bool := decide (di s c < s.size)
theorem ext_all (s : ByteArray) : s.extract 0 s.size = s := by
  apply ByteArray.ext
  have : (s.extract 0 s.size).data.toList = s.data.toList := by
    rw [Lib.extract_data]
    simp
    apply List.take_of_length_le
    rw [Array.length_toList]
    exact Nat.le_refl _
  exact Array.toList_inj.1 this
theorem ext_none (s : ByteArray) (n : Nat) : s.extract (n + 1) n = ⟨#[]⟩ := by
  apply ByteArray.ext
  have : (s.extract (n + 1) n).data.toList = [] := by
    rw [Lib.extract_data]
    simp
  apply Array.toList_inj.1
  rw [this]

set_option maxRecDepth 100000 in
set_option maxHeartbeats 2000000 in
theorem liteCut_c (s : ByteArray) (c : UInt8) (w : World) (hs : s.size ≤ 9223372036854775807) :
    Calls Tryz.prog 76 #[.string s, .string ⟨#[c]⟩] w fun e w' => e = .returned (.tuple #[.string (cutA s c), .string (cutB s c), .bool (cutF s c)]) ∧ Below w.heap.size w w' := by
  have IC := Index_one s c w
  have z1 : (⟨#[c]⟩ : ByteArray).size = 1 := rfl
  rcases di_spec s c with ⟨h1, h2, _⟩ | ⟨h1, h2, _⟩
  · rw [h1] at IC
    have HA : Hid (cutA s c = s) := Lib.hid (by rw [cutA, h2, ext_all])
    have HB : Hid (cutB s c = ⟨#[]⟩) := Lib.hid (by rw [cutB, h2, ext_none])
    have HF : Hid (cutF s c = false) := Lib.hid (by rw [cutF, h2, decide_eq_false (Nat.lt_irrefl _)])
    rw [HA.out, HB.out, HF.out]
    clear h1 h2 HA HB HF
    go_enter Tryz.func76, Tryz.ntmps76
    go_wp2_with fail
    refine IC.mono ?_
    rintro e w' ⟨rfl, rfl⟩
    go_wp2_with fail
    exact bodyPost_ret (v := .tuple #[.string s, .string ⟨#[]⟩, .bool false]) (by simp [results, Tryz.results76, go_sem]) rfl ⟨rfl, brefl _⟩
  · rw [h1] at IC
    have HA : Hid (s.extract 0 (di s c) = cutA s c) := Lib.hid rfl
    have HB : Hid (s.extract (di s c + 1) s.size = cutB s c) := Lib.hid rfl
    have HF : Hid (cutF s c = true) := Lib.hid (by rw [cutF, decide_eq_true h2])
    rw [HF.out, ← HA.out, ← HB.out]
    generalize di s c = d at *
    have d0 : (0 : Int) ≤ (d : Int) := by omega
    have d1 : (d : Int) ≤ (s.size : Int) := by omega
    have d2 : (d : Int) + 1 ≤ (s.size : Int) := by omega
    have dn : ((d : Int) + 1).toNat = d + 1 := by omega
    have e1 : decide (0 ≤ (d : Int)) = true := decide_eq_true d0
    clear h1 HA HB HF
    go_enter Tryz.func76, Tryz.ntmps76
    go_wp2_with fail
    refine IC.mono ?_
    rintro e w' ⟨rfl, rfl⟩
    go_wp2_with fail
    go_quiet (fail)
    go_wp2_with fail
    exact bodyPost_ret (v := .tuple #[.string (s.extract 0 d), .string (s.extract (d + 1) s.size), .bool true]) (by simp [results, Tryz.results76, go_sem]) rfl ⟨rfl, bdrew (brefl _) nq⟩
set_option maxRecDepth 100000 in
set_option maxHeartbeats 2000000 in
theorem Cut_c (s : ByteArray) (c : UInt8) (w : World) (hs : s.size ≤ 9223372036854775807) :
    Calls Tryz.prog 64 #[.string s, .string ⟨#[c]⟩] w fun e w' => e = .returned (.tuple #[.string (cutA s c), .string (cutB s c), .bool (cutF s c)]) ∧ Below w.heap.size w w' := by
  have IC := liteCut_c s c w hs
  go_enter Tryz.func64, Tryz.ntmps64
  go_wp2_with fail
  refine IC.mono ?_
  rintro e w' ⟨rfl, hb⟩
  go_wp2_with fail
  exact bodyPost_ret (v := .tuple #[.string (cutA s c), .string (cutB s c), .bool (cutF s c)]) (by simp [results, Tryz.results64, go_sem]) rfl ⟨rfl, hb⟩
end Go.Proofs.YtkjolaoajbdomaaGreatDoor.Hi
