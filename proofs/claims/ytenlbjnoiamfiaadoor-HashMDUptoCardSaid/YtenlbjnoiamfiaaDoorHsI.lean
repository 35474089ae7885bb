/-
  MD5 of bytes that lie in memory, and of nil; sundialref04.Same.
  Conditions: no more than 2^47 - 4096 bytes.
-/
import Derived.Test.YtenlbjnoiamfiaaDoorHsH
import Derived.Laws.IdiomStrings
namespace Go.Proofs.YtenlbjnoiamfiaaDoor.Hs
open Go.RowKit
set_option linter.unusedVariables false
set_option linter.unusedSimpArgs false

theorem ha_some {w : World} {b off n cap : Nat} {f : Nat → Nat} (B : Bs w b off n f) (hn : n ≤ 140737488351232) (ty : TypeId) :
    ∃ v' w', (Builtin.append_ #[22, 22] ty #[.slice none 0 0, .slice (some ⟨b, off, none⟩) n cap]).run Tryd.prog w = .ok v' w' ∧ Own w' w.heap.size v' (bl f n) ∧ Below w.heap.size w w' ∧ w.heap.size ≤ w'.heap.size := by
  obtain ⟨v', w', h1, h2, h3, h4⟩ := appB (Own.nil w w.heap.size) B cap (Nat.le_refl _) (by simp; omega) ty
  exact ⟨v', w', h1, by simpa using h2, h3, h4⟩
theorem rMD5_some (b off n cap : Nat) (f : Nat → Nat) (w : World) (hn : n ≤ 140737488351232) (B : Bs w b off n f) :
    Calls Tryd.prog 10 #[.slice (some ⟨b, off, none⟩) n cap] w fun e w' => (∃ v, e = .returned v ∧ Own w' w.heap.size v (md5 f n)) ∧ Below w.heap.size w w' :=
  rMD5_c (some ⟨b, off, none⟩) n cap f w hn B.2.1 (Lib.hid fun ty => ha_some B hn ty)
theorem ha_nil (w : World) (f : Nat → Nat) (ty : TypeId) :
    ∃ v' w', (Builtin.append_ #[22, 22] ty #[.slice none 0 0, .slice none 0 0]).run Tryd.prog w = .ok v' w' ∧ Own w' w.heap.size v' (bl f 0) ∧ Below w.heap.size w w' ∧ w.heap.size ≤ w'.heap.size := by
  obtain ⟨i, hi, hz, hs, hby⟩ := info_parts info_u8
  refine ⟨.slice none 0 0, w, ?_, Own.nil _ _, Below.refl _ _, Nat.le_refl _⟩
  exact run_append_nothing (P := Tryd.prog) w 22 22 ty 5 i Tryd.underlying22 hi none 0 0 (Nat.le_refl _) _ (Src.ofNil w Tryd.underlying22 0)
theorem rMD5_nil (f : Nat → Nat) (hf : ∀ i, f i < 256) (w : World) :
    Calls Tryd.prog 10 #[.slice none 0 0] w fun e w' => (∃ v, e = .returned v ∧ Own w' w.heap.size v (md5 f 0)) ∧ Below w.heap.size w w' :=
  rMD5_c none 0 0 f w (by omega) hf (Lib.hid fun ty => ha_nil w f ty)
/-- bytes as a string. -/
def bs8 (l : List Nat) : ByteArray := ⟨(l.map UInt8.ofNat).toArray⟩
theorem conv_bs {w : World} {b off n : Nat} {f : Nat → Nat} (B : Bs w b off n f) (cap : Nat) :
    (convert 22 9 (.slice (some ⟨b, off, none⟩) n cap)).run Tryd.prog w = .ok (.string (bs8 (bl f n))) w := by
  have h := run_convert_bytes_back (P := Tryd.prog) w 22 9 5 ⟨b, off, none⟩ cap ((bl f n).map UInt8.ofNat) Tryd.underlying22 Tryd.underlying5 Tryd.underlying9 (by
    intro j hj
    have hj' : j < n := by simpa [bl_len] using hj
    have e := B.2.2 j hj'
    have g := B.2.1 j
    have x : ((UInt8.ofNat (f j)).toNat : Int) = (f j : Int) := by rw [UInt8.toNat_ofNat']; omega
    have y : ((bl f n).map UInt8.ofNat)[j] = UInt8.ofNat (f j) := by simp [bl]
    rw [y, x]
    cases j <;> simpa [Addr.add] using e)
  rw [List.length_map, bl_len] at h
  exact h
theorem bs8_inj {l k : List Nat} (hl : ∀ x ∈ l, x < 256) (hk : ∀ x ∈ k, x < 256) (h : bs8 l = bs8 k) : l = k := by
  have h2 : l.map UInt8.ofNat = k.map UInt8.ofNat := by
    have := congrArg (fun b : ByteArray => b.data.toList) h
    simpa [bs8] using this
  have h3 := congrArg (List.map UInt8.toNat) h2
  simp only [List.map_map] at h3
  have e : ∀ l : List Nat, (∀ x ∈ l, x < 256) → l.map (UInt8.toNat ∘ UInt8.ofNat) = l := fun l hl => by
    conv => rhs; rw [← List.map_id l]
    apply List.map_congr_left
    intro x hx
    have := hl x hx
    simp only [Function.comp, id]
    rw [UInt8.toNat_ofNat']
    omega
  rwa [e l hl, e k hk] at h3

/-- of two rows of bytes that are one. -/
theorem rSame_yes (b off n cap b' off' cap' : Nat) (f f' : Nat → Nat) (w : World) (B : Bs w b off n f) (B' : Bs w b' off' n f') (h : bl f n = bl f' n) :
    Calls Tryd.prog 8 #[.slice (some ⟨b, off, none⟩) n cap, .slice (some ⟨b', off', none⟩) n cap'] w fun e w' => e = .returned (.bool true) ∧ w' = w := by
  have C := conv_bs B cap
  have C' := conv_bs B' cap'
  rw [← h] at C'
  generalize bs8 (bl f n) = s at *
  clear B B' h
  go_enter Tryd.func8, Tryd.ntmps8
  go_wp2_with fail
  go_ret
  exact ⟨rfl, rfl⟩
end Go.Proofs.YtenlbjnoiamfiaaDoor.Hs
