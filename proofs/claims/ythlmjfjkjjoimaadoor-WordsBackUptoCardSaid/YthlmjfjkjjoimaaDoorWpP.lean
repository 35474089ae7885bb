/-
  Characters: a rune that is no wrong byte is written as it was read; which bytes are wrong; blanks.
-/
import Derived.Test.YthlmjfjkjjoimaaDoorWpD
import Derived.Lib.MapLaws
namespace Go.Proofs.YthlmjfjkjjoimaaDoor.Wd
open Go.ChangeShapes Go.WideShapes Go.ChangeAt Go.RowKit Go.Joins By
set_option linter.unusedVariables false
set_option linter.unusedSimpArgs false

/-- the text of the character at p. -/
def ct (s : ByteArray) (p : Nat) : ByteArray := s.extract p (p + cw s p)
def tl (s : ByteArray) (p : Nat) : List UInt8 := (s.extract p s.size).data.toList
theorem decL (s : ByteArray) (p : Nat) : Lib.decodeL (tl s p) = (cr s p, cw s p) := by
  have h := Lib.tail_decode s p 0
  rw [Nat.add_zero] at h
  have e : Lib.decodeL (tl s p) = Utf8.decode (s.extract p s.size) 0 := by
    unfold Lib.decodeL tl
    rw [Array.toArray_toList]
  rw [e, h]
  rfl
theorem tl_eq (s : ByteArray) (p : Nat) : tl s p = s.data.toList.drop p := by
  unfold tl
  rw [Lib.extract_data]
  apply List.take_of_length_le
  rw [List.length_drop, ← Lib.size_eq]
  exact Nat.le_refl _
theorem ct_data (s : ByteArray) (p : Nat) : (ct s p).data.toList = (tl s p).take (cw s p) := by
  unfold ct
  rw [Lib.extract_data, tl_eq]
  congr 1
  omega
theorem tl_ne {s : ByteArray} {p : Nat} (h : p < s.size) : tl s p ≠ [] := by
  rw [tl_eq]
  intro e
  have := congrArg List.length e
  rw [List.length_drop, ← Lib.size_eq] at this
  simp at this
  omega
/-- what is no wrong byte is written as it was read. -/
theorem enc_ct {s : ByteArray} {p : Nat} (h : p < s.size) (hw : wr1 s p = false) : Lib.encodeRune (cr s p : Int) = (ct s p).data.toList := by
  have d := decL s p
  have e := Lib.encode_decode (tl s p) (tl_ne h) (by
    rw [d]
    rintro ⟨a, b⟩
    simp only at a b
    rw [wr1, decide_eq_true a, decide_eq_true b] at hw
    cases hw)
  rw [d] at e
  rw [ct_data]
  exact e
theorem rb_ct {s : ByteArray} {p : Nat} (h : p < s.size) (hw : wr1 s p = false) : rb (cr s p : Int) = bn (ct s p) := by
  unfold rb bn
  rw [enc_ct h hw]
/-- which bytes are wrong. -/
theorem wrong_eq {s : ByteArray} {p : Nat} (h : p < s.size) : (decide (cr s p = 65533) && !Lib.hasPrefix (s.extract p s.size).data.toList [239, 191, 189]) = wr1 s p := by
  by_cases a : cr s p = 65533
  · by_cases b : cw s p = 1
    · have hp : Lib.hasPrefix (s.extract p s.size).data.toList [239, 191, 189] = false := by
        cases hq : Lib.hasPrefix (s.extract p s.size).data.toList [239, 191, 189] with
        | false => rfl
        | true =>
          exfalso
          have d := decL s p
          unfold Lib.hasPrefix at hq
          rw [List.isPrefixOf_iff_prefix] at hq
          obtain ⟨r, hr⟩ := hq
          have hr : tl s p = 239 :: 191 :: 189 :: r := hr.symm
          rw [hr, Lib.decodeL_N] at d
          have d2 := congrArg Prod.snd d
          simp only [b] at d2
          have e : ∀ n b3 : Nat, 2 < n → (Lib.decodeN n 239 191 189 b3).2 = 3 := by
            intro n b3 hn
            simp [Lib.decodeN, hn, show 1 < n by omega]
          have := e (239 :: 191 :: 189 :: r).length (List.getD (239 :: 191 :: 189 :: r) 3 0).toNat (by simp)
          simp at this d2
          omega
      rw [hp, wr1, decide_eq_true a, decide_eq_true b]
      rfl
    · have hw : wr1 s p = false := by rw [wr1, decide_eq_false b, Bool.and_false]
      have e := enc_ct h hw
      rw [a, ct_data] at e
      have e2 : Lib.encodeRune ((65533 : Nat) : Int) = [239, 191, 189] := by decide
      rw [e2] at e
      have hp : Lib.hasPrefix (s.extract p s.size).data.toList [239, 191, 189] = true := by
        unfold Lib.hasPrefix
        rw [List.isPrefixOf_iff_prefix, e]
        exact List.take_prefix _ _
      rw [hp, hw]
      simp
  · rw [wr1, decide_eq_false a, Bool.false_and, Bool.false_and]

/-- a rune and its text. -/
structure Ch (r : Nat) (t : ByteArray) : Prop where
  enc : Lib.encodeRune (r : Int) = t.data.toList
  le : r ≤ 1114111
theorem ch_at {s : ByteArray} {p : Nat} (h : p < s.size) (hw : wr1 s p = false) : Ch (cr s p) (ct s p) := ⟨enc_ct h hw, cr_le s p⟩
theorem Ch.rb {r : Nat} {t : ByteArray} (h : Ch r t) : rb (r : Int) = bn t := by
  unfold Wd.rb bn
  rw [h.enc]
theorem encZ (r : Int) : (rb r).map (fun (x : Nat) => (x : Int)) = Lib.encodeRuneZ r := by
  unfold rb Lib.encodeRune
  rw [List.map_map, List.map_map]
  conv => rhs; rw [← List.map_id (Lib.encodeRuneZ r)]
  apply List.map_congr_left
  intro x hx
  obtain ⟨h0, h1⟩ := Lib.encodeRuneZ_byte r x hx
  simp [Function.comp]
  omega
theorem encZ1 (r : Nat) (x : Int) (hx : 0 ≤ x ∧ x < 128) : Lib.encodeRuneZ (r : Int) = [x] ↔ (r : Int) = x := by
  unfold Lib.encodeRuneZ
  repeat' split
  all_goals simp
  all_goals omega
theorem encZ2 (r : Nat) : Lib.encodeRuneZ (r : Int) = [194, 160] ↔ r = 160 := by
  unfold Lib.encodeRuneZ
  repeat' split
  all_goals simp
  all_goals omega
theorem encZ3 (r : Nat) : Lib.encodeRuneZ (r : Int) = [227, 128, 128] ↔ r = 12288 := by
  unfold Lib.encodeRuneZ
  repeat' split
  all_goals simp
  all_goals omega
theorem map_one {α β : Type} {f : α → β} (hf : ∀ a b, f a = f b → a = b) : ∀ l k : List α, l.map f = k.map f → l = k
  | [], [], _ => rfl
  | [], _ :: _, h => by simp at h
  | _ :: _, [], h => by simp at h
  | a :: l, b :: k, h => by
    simp only [List.map_cons, List.cons.injEq] at h
    rw [hf a b h.1, map_one hf l k h.2]
theorem list_iff (l k : List UInt8) : l = k ↔ (l.map UInt8.toNat).map (fun (x : Nat) => (x : Int)) = (k.map UInt8.toNat).map (fun (x : Nat) => (x : Int)) := by
  constructor
  · rintro rfl; rfl
  · intro h
    exact map_one (fun a b e => UInt8.toNat_inj.1 e) _ _ (map_one (f := fun (x : Nat) => (x : Int)) (fun (a b : Nat) (e : (a : Int) = (b : Int)) => by omega) _ _ h)
theorem Ch.is {r : Nat} {t : ByteArray} (h : Ch r t) (k : List UInt8) : t.toList = k ↔ Lib.encodeRuneZ (r : Int) = (k.map UInt8.toNat).map (fun (x : Nat) => (x : Int)) := by
  rw [ByteArray.toList_eq, ← h.enc, list_iff, ← encZ]
  rfl
theorem Ch.is34 {r : Nat} {t : ByteArray} (h : Ch r t) : t.toList = [34] ↔ r = 34 := by
  rw [h.is]
  have := encZ1 r 34 (by omega)
  simp only [List.map_cons, List.map_nil]
  refine Iff.trans this ?_
  omega
theorem Ch.is35 {r : Nat} {t : ByteArray} (h : Ch r t) : t.toList = [35] ↔ r = 35 := by
  rw [h.is]
  have := encZ1 r 35 (by omega)
  simp only [List.map_cons, List.map_nil]
  refine Iff.trans this ?_
  omega
theorem Ch.is92 {r : Nat} {t : ByteArray} (h : Ch r t) : t.toList = [92] ↔ r = 92 := by
  rw [h.is]
  have := encZ1 r 92 (by omega)
  simp only [List.map_cons, List.map_nil]
  refine Iff.trans this ?_
  omega
theorem Ch.bl {r : Nat} {t : ByteArray} (h : Ch r t) : bl1 t = blk r := by
  have a := (h.is [9]).trans (encZ1 r 9 (by omega))
  have b := (h.is [32]).trans (encZ1 r 32 (by omega))
  have c := (h.is [194, 160]).trans (encZ2 r)
  have d := (h.is [227, 128, 128]).trans (encZ3 r)
  rw [Bool.eq_iff_iff]
  simp only [bl1, blk, Bool.or_eq_true, beq_iff_eq, decide_eq_true_eq, a, b, c, d]
  omega
end Go.Proofs.YthlmjfjkjjoimaaDoor.Wd
