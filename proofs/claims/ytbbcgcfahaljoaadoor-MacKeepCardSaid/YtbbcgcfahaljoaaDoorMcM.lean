/-
  The contract of sundiallaw06.awake; the row's tables; the arguments opened: rings and keys.
  Conditions: none.
-/
import Derived.Test.YtbbcgcfahaljoaaDoorMcK
import Derived.Test.YtbbcgcfahaljoaaDoorMcL
import Derived.Test.YtbbcgcfahaljoaaDoorHsX
import Derived.Lib.SlBytesConst
namespace Go.Proofs.YtbbcgcfahaljoaaDoor.Mc
open Go.ChangeShapes Go.WideShapes Go.ChangeAt Go.RowKit Go.Joins Hs
set_option linter.unusedVariables false
set_option linter.unusedSimpArgs false

theorem Sb.hex {w0 w : World} {va : Value} {n : Nat} {f : Nat → Nat} (A : Sb w0 va n f) (k : Below w0.heap.size w0 w) (hn : n ≤ 140737488351232) :
    Calls Tryd.prog 19 #[va] w fun e w' => e = .returned (.string (bs8 (hxL f n))) ∧ Below w.heap.size w w' := by
  obtain ⟨a, cap, rfl, h1, h2, h3, h4, h5⟩ := A
  exact Hex_c a n cap f w (by omega) h3 h1 h2 (Lib.hid fun hn => by obtain ⟨b, off, ea, B⟩ := h4 hn; exact ⟨b, off, ea, B.below k⟩)
theorem lit_sb (w : World) (l : List Nat) (ty : TypeId) (fr : Nat × Nat) (h : ∀ x ∈ l, x < 256) (hl : l.length < 9223372036854775807) : Sb (w.alloc (.cells (cl l).toArray ty fr)) (.slice (some ⟨w.heap.size, 0, none⟩) l.length l.length) l.length (fun i => l.getD i 0) := by
  refine ⟨_, _, rfl, Nat.le_refl _, by omega, getD_byte h, fun _ => ⟨w.heap.size, 0, rfl, by simp, getD_byte h, fun i hi => ?_⟩, fun h => by cases h⟩
  rw [Nat.zero_add, World.cell?_alloc_mark w _ _ fr i]
  simp [cl, List.getD_eq_getElem?_getD, hi]
def ab (i : Nat) : Nat := [97, 98].getD i 0
def cc (i : Nat) : Nat := [99].getD i 0
def aa (i : Nat) : Nat := [97].getD i 0
theorem ab_sb (w : World) (ty : TypeId) (fr : Nat × Nat) : Sb (w.alloc (.cells #[.int .u8 97, .int .u8 98] ty fr)) (.slice (some ⟨w.heap.size, 0, none⟩) 2 2) 2 ab := lit_sb w [97, 98] ty fr (by decide) (by decide)
theorem cc_sb (w : World) (ty : TypeId) (fr : Nat × Nat) : Sb (w.alloc (.cells #[.int .u8 99] ty fr)) (.slice (some ⟨w.heap.size, 0, none⟩) 1 1) 1 cc := lit_sb w [99] ty fr (by decide) (by decide)
theorem aa_sb (w : World) (ty : TypeId) (fr : Nat × Nat) : Sb (w.alloc (.cells #[.int .u8 97] ty fr)) (.slice (some ⟨w.heap.size, 0, none⟩) 1 1) 1 aa := lit_sb w [97] ty fr (by decide) (by decide)
theorem nil_sb (w : World) (f : Nat → Nat) (hf : ∀ i, f i < 256) : Sb w (.slice none 0 0) 0 f := ⟨none, 0, rfl, Nat.le_refl _, by omega, hf, fun h => absurd h (Nat.lt_irrefl _), fun _ => rfl⟩
theorem awake_mL (v : Value) : mL ⟨1, 0, v, 2, ab⟩ cc 1 = md5 abc 3 := rfl
theorem awake_hx : bs8 (hxL (fun i => (md5 abc 3).getD i 0) 16) = ⟨#[57, 48, 48, 49, 53, 48, 57, 56, 51, 99, 100, 50, 52, 102, 98, 48, 100, 54, 57, 54, 51, 102, 55, 100, 50, 56, 101, 49, 55, 102, 55, 50]⟩ := by rw [md5_abc]; rfl

set_option maxRecDepth 100000 in
set_option maxHeartbeats 4000000 in
theorem awake6_c (w : World) (G : Gl w) :
    Calls Tryd.prog 8 #[] w fun e w' => e = .returned (.bool true) ∧ Below w.heap.size w w' := by
  have HG := Lib.hid G
  clear G
  have kc := fun (w : World) (C : Array Value) (n c : Nat) => Lib.run_convert_bytes_const (P := Tryd.prog) w 26 5 C n c Tryd.underlying26 Tryd.underlying5
  go_enter Tryd.func8, Tryd.ntmps8
  have kd : ∀ (w : World) (o : Obj) (C : Array Value) (n c : Nat), (convert 26 26 (.slice (some ⟨w.heap.size + 1, 0, none⟩) n c)).run Tryd.prog ((w.alloc o).alloc (.cells C 5)) = .ok (.slice (some ⟨w.heap.size + 1, 0, none⟩) n c) ((w.alloc o).alloc (.cells C 5 (C.size, C.size + 1))) := fun w o C n c => by
    have h := kc (w.alloc o) C n c
    rwa [show (w.alloc o).heap.size = w.heap.size + 1 from by simp] at h
  go_wp2_with fail
  have B0 := Lib.hid (balloc (brefl w) (.cells #[.int .u8 97, .int .u8 98] 5 (2, 3)))
  have S0 := Lib.hid (ab_sb w 5 (2, 3))
  generalize HW0 : w.alloc (.cells #[.int .u8 97, .int .u8 98] 5 (2, 3)) = w0 at *
  have B1 := Lib.hid (balloc (brefl w0) (.cells #[.int .u8 99] 5 (1, 2)))
  have S1 := Lib.hid (cc_sb w0 5 (1, 2))
  have Z0 : w0.heap.size = w.heap.size + 1 := by rw [← HW0]; simp
  rw [Z0] at S1
  clear HW0 Z0
  generalize w0.alloc (.cells #[.int .u8 99] 5 (1, 2)) = w1 at *
  have BB := Lib.hid (bstep B0.out B1.out)
  refine (Make_c (k := ⟨1, 0, .slice (some ⟨w.heap.size, 0, none⟩) 2 2, 2, ab⟩) (HG.out.below BB.out) (S0.out.below B1.out) S1.out (by omega)).mono ?_
  rintro e w2 ⟨v2, rfl, o2, hb⟩
  rw [awake_mL] at o2
  have E0 : mE ⟨1, 0, .slice (some ⟨w.heap.size, 0, none⟩) 2 2, 2, ab⟩ = 0 := rfl
  rw [E0]
  have B2 := Lib.hid (bstep BB.out hb)
  have SX := Lib.hid o2.sb
  obtain ⟨a2, c2, e2⟩ := SX.out.form
  subst e2
  have HX := Lib.hid (Sb.hex (w := w2) SX.out (brefl _) (by rw [md5_len]; omega))
  rw [md5_len] at HX SX
  rw [md5_len]
  rw [awake_hx] at HX
  clear o2 hb S0 S1 B0 B1 E0
  go_wp2_with fail
  refine HX.out.mono ?_
  rintro e w3 ⟨rfl, hb⟩
  have B3 := Lib.hid (bstep B2.out hb)
  clear hb HX SX
  go_wp2_with fail
  have B4 := Lib.hid (balloc (brefl w3) (.cells #[.int .u8 97] 5 (1, 2)))
  have S4 := Lib.hid (aa_sb w3 5 (1, 2))
  generalize HW4 : w3.alloc (.cells #[.int .u8 97] 5 (1, 2)) = w4 at *
  have B5 := Lib.hid (balloc (brefl w4) (.cells #[.int .u8 97] 5 (1, 2)))
  have S5 := Lib.hid (aa_sb w4 5 (1, 2))
  have Z4 : w4.heap.size = w3.heap.size + 1 := by rw [← HW4]; simp
  rw [Z4] at S5
  clear HW4 Z4
  generalize w4.alloc (.cells #[.int .u8 97] 5 (1, 2)) = w5 at *
  have B6 := Lib.hid (bstep B3.out (bstep B4.out B5.out))
  have SA := Lib.hid (Same_c (S4.out.below B5.out) S5.out)
  rw [decide_eq_true rfl] at SA
  clear S4 S5 B4 B5
  refine SA.out.mono ?_
  rintro e w6 ⟨rfl, hb⟩
  have B7 := Lib.hid (bstep B6.out hb)
  clear hb SA
  go_wp2_with fail
  have B8 := Lib.hid (balloc (brefl w6) (.cells #[.int .u8 97] 5 (1, 2)))
  have SB := Lib.hid (Same_c (nil_sb (w6.alloc (.cells #[.int .u8 97] 5 (1, 2))) aa (by intro i; exact getD_byte (l := [97]) (by decide) i)) (aa_sb w6 5 (1, 2)))
  have F0 : decide (bl aa 0 = bl aa 1) = false := by decide
  rw [F0] at SB
  refine SB.out.mono ?_
  rintro e w7 ⟨rfl, hb⟩
  have B9 := Lib.hid (bstep B7.out (bstep B8.out hb))
  clear hb SB
  go_wp2_with fail
  go_ret
  exact ⟨rfl, B9.out⟩
end Go.Proofs.YtbbcgcfahaljoaaDoor.Mc
