/-
  The contracts of sundiallaw05.known and awake.
  Conditions: none.
-/
import Derived.Test.YtfefkakdhaecpaaAeV
namespace Go.Proofs.Ytfefkakdhaecpaa.Ae
open Go.RowKit By
set_option linter.unusedVariables false
set_option linter.unusedSimpArgs false

theorem kn_bs (w : World) (ty : TypeId) : Bs (w.alloc (.cells #[.int .u8 43, .int .u8 126, .int .u8 21, .int .u8 22, .int .u8 40, .int .u8 174, .int .u8 210, .int .u8 166, .int .u8 171, .int .u8 247, .int .u8 21, .int .u8 136, .int .u8 9, .int .u8 207, .int .u8 79, .int .u8 60] ty)) w.heap.size 0 16 kn := by
  refine ⟨by simp, kn_lt, fun i hi => ?_⟩
  rw [Nat.zero_add, World.cell?_alloc_mark w _ _ (0, 0) i]
  match i, hi with
  | 0, _ => rfl
  | 1, _ => rfl
  | 2, _ => rfl
  | 3, _ => rfl
  | 4, _ => rfl
  | 5, _ => rfl
  | 6, _ => rfl
  | 7, _ => rfl
  | 8, _ => rfl
  | 9, _ => rfl
  | 10, _ => rfl
  | 11, _ => rfl
  | 12, _ => rfl
  | 13, _ => rfl
  | 14, _ => rfl
  | 15, _ => rfl
  | i + 16, h => exact absurd h (by omega)

set_option maxRecDepth 100000 in
set_option maxHeartbeats 1000000 in
theorem known_c (w : World) :
    Calls Try.prog 14 #[] w fun e w' => e = .returned (.slice (some ⟨w.heap.size, 0, none⟩) 16 16) ∧ Bs w' w.heap.size 0 16 kn ∧ Below w.heap.size w w' := by
  have KB := Lib.hid (kn_bs w 5)
  have WB := Lib.hid (balloc (brefl w) (.cells #[.int .u8 43, .int .u8 126, .int .u8 21, .int .u8 22, .int .u8 40, .int .u8 174, .int .u8 210, .int .u8 166, .int .u8 171, .int .u8 247, .int .u8 21, .int .u8 136, .int .u8 9, .int .u8 207, .int .u8 79, .int .u8 60] 5))
  go_enter Try.func14, Try.ntmps14
  go_wp2_with fail
  go_ret
  exact ⟨rfl, KB.out, WB.out⟩
theorem hex_str : bs8 (hxL (gl vT) 16) = ⟨#[98, 98, 49, 100, 54, 57, 50, 57, 101, 57, 53, 57, 51, 55, 50, 56, 55, 102, 97, 51, 55, 100, 49, 50, 57, 98, 55, 53, 54, 55, 52, 54]⟩ := by rw [hex_kn]; rfl
/-- an array is a row of bytes. -/
theorem Ay.bs {w : World} {b o n : Nat} {g f : Nat → Nat} (h : Ay w b o n g) (e : ∀ i, i < n → g i = f i) (hf : ∀ i, f i < 256) : Bs w b o n f :=
  ⟨h.1, hf, fun i hi => by rw [← e i hi]; exact (h.2.2 i hi).1⟩

set_option maxRecDepth 100000 in
set_option maxHeartbeats 2000000 in
theorem awake_c (w : World) :
    Calls Try.prog 8 #[] w fun e w' => e = .returned (.bool true) ∧ Below w.heap.size w w' := by
  go_enter Try.func8, Try.ntmps8
  go_wp2_with fail
  refine (known_c _).mono ?_
  rintro e w1 ⟨rfl, kb, hb1⟩
  have KB := Lib.hid kb
  have B1 := Lib.hid hb1
  clear kb hb1
  go_wp2_with fail
  refine (CMAC_c (some ⟨w.heap.size, 0, none⟩) none 0 16 0 kn (fun _ => 0) w1 (fun _ => ⟨w.heap.size, 0, rfl, KB.out⟩) (fun h => absurd h (by omega)) (fun i _ => kn_lt i) (fun _ => by simp) (by omega) (by omega)).mono ?_
  rintro e w2 ⟨g, rfl, hg, ay, hb2⟩
  have AB := Lib.hid (ay.bs (tag_kn _) (gl_lt (by decide)))
  have B2 := Lib.hid (bstep B1.out hb2)
  have HX := Lib.hid (Hex_c (some ⟨g, 0, none⟩) 16 16 (gl vT) w2 (by omega) (gl_lt (by decide)) (by omega) (by omega) (Lib.hid fun _ => ⟨g, 0, rfl, AB.out⟩))
  rw [hex_str] at HX
  clear ay hb2
  go_wp2_with fail
  refine HX.out.mono ?_
  rintro e w3 ⟨rfl, hb3⟩
  have B3 := Lib.hid (bstep B2.out hb3)
  clear hb3 HX
  go_wp2_with fail
  go_ret
  exact ⟨rfl, B3.out⟩
end Go.Proofs.Ytfefkakdhaecpaa.Ae
