/-
  A strings.Builder in a field of a block: String.
-/
import Derived.Test.YthlmjfjkjjoimaaDoorWpB
namespace Go.Proofs.YthlmjfjkjjoimaaDoor.Wd
open Go.ChangeShapes Go.WideShapes Go.ChangeAt Go.RowKit Go.Joins By
set_option linter.unusedVariables false
set_option linter.unusedSimpArgs false

theorem cl_byteCells (l : List Nat) (h8 : ∀ x ∈ l, x < 256) : cl l = Lib.byteCells (l.map UInt8.ofNat) := by
  unfold cl Lib.byteCells
  rw [List.map_map]
  apply List.map_congr_left
  intro x hx
  have := h8 x hx
  simp [Nat.mod_eq_of_lt this]

set_option maxRecDepth 100000 in
set_option maxHeartbeats 2000000 in
theorem String_c {w : World} {b o : Nat} {T : TypeId} {c : Array Value} (F : Fb w b o T c) {B : Nat} (hB : B ≤ b) {v : Value} {l : List Nat} (hv : c[o + 1]? = some v) (own : Own w B v l) (h8 : ∀ x ∈ l, x < 256) (hz : l = [] → v = .slice none 0 0) :
    Calls Tryd.prog 24 #[pt b o] w fun e w' => e = .returned (.string (bs8 l)) ∧ Fb w' b o T c ∧ Wrote B b w w' := by
  by_cases h0 : l = []
  · obtain rfl := hz h0
    have c1 : w.drew.cell? ⟨b, o + 1, none⟩ = some (.slice none 0 0) := by
      have := F.cell (o + 1)
      rw [hv] at this
      exact this
    have hUS := Lib.run_unsafeString_none (P := Tryd.prog) w.drew 78 3 9 none
    have hSD : (Builtin.unsafeSliceData_ #[34] 78 #[.slice none 0 0]).run Tryd.prog w.drew = .ok (.pointer none) w.drew := rfl
    have F2 : Fb w.drew b o T c := F.keep rfl
    have W2 : Wrote B b w w.drew := ⟨Below.drew (Below.refl _ _), (Lib.OthersKept.refl _ _ _).drew⟩
    subst h0
    unfold pt
    go_enter Tryd.func24, Tryd.ntmps24
    go_wp2
    have mixed : Tryd.prog.follows Departure.mixedOrders = true := by kernel_rfl
    go_region_o
    all_goals (go_wp2; go_ret; exact ⟨rfl, F2, W2⟩)
  · have hl0 : l.length ≠ 0 := by simpa using h0
    have hne := own_ne own F.heap F.kind
    obtain ⟨g, cap, cur, rfl, hbg, hg, hnc, hcm, hcs, htake⟩ : ∃ g cap cur, v = .slice (some ⟨g, 0, none⟩) l.length cap ∧ B ≤ g ∧ w.heap[g]? = some (.cells cur 5 (0, 0)) ∧ l.length ≤ cap ∧ cap ≤ maxLen ∧ cur.size = cap * 1 ∧ cur.toList.take (l.length * 1) = cl l := by
      rcases own.2 with ⟨_, hz⟩ | ⟨g, cap, cur, hv, r⟩
      · exact absurd hz hl0
      · exact ⟨g, cap, cur, hv, r⟩
    have c1 : w.drew.cell? ⟨b, o + 1, none⟩ = some (.slice (some ⟨g, 0, none⟩) l.length cap) := by
      have := F.cell (o + 1)
      rw [hv] at this
      exact this
    have hSD : (Builtin.unsafeSliceData_ #[34] 78 #[.slice (some ⟨g, 0, none⟩) l.length cap]).run Tryd.prog w.drew = .ok (.pointer (some ⟨g, 0, none⟩)) w.drew :=
      Lib.run_unsafeSliceData_row _ _ _ _ _ _ (by omega)
    have hUS : (Builtin.unsafeString_ #[78, 3] 9 #[.pointer (some ⟨g, 0, none⟩), .int .i64 l.length]).run Tryd.prog w.drew = .ok (.string (bs8 l)) (w.drew.freeze ⟨g, 0, none⟩ l.length) := by
      have hl : (l.map UInt8.ofNat).length = l.length := List.length_map _
      have := Lib.run_unsafeString_row (P := Tryd.prog) w.drew 78 3 9 5 Tryd.underlying78 cells5 g cur.size (by have hg' : w.drew.heap[g]? = some (.cells cur 5 (0, 0)) := hg; simp [World.shape?, hg']) (l.map UInt8.ofNat) (by simpa using h0) (by omega) (by unfold maxLen at hcm; omega) ?_
      · rw [hl] at this
        exact this
      · intro j x hx
        have h2 := World.ownsRow.cells own (g := g) rfl j (.int .u8 x.toNat) (by rw [cl_byteCells l h8]; simp only [Lib.byteCells, List.getElem?_map, hx]; rfl)
        exact h2
    have W2 : Wrote B b w (w.drew.freeze ⟨g, 0, none⟩ l.length) := ⟨Lib.below_freeze (Below.drew (Below.refl B w)) (p := ⟨g, 0, none⟩) hbg _, ((Lib.OthersKept.refl _ _ w).drew).freeze ⟨g, 0, none⟩ _ ⟨cur, (0, 0), hg⟩⟩
    have F2 : Fb (w.drew.freeze ⟨g, 0, none⟩ l.length) b o T c := F.keep (by
      have hgb : g ≠ b := fun e => hne (by simp [Value.ownBlock, e])
      unfold World.freeze
      split
      · rfl
      · simp only [Array.getElem?_modify]
        rw [if_neg hgb]
        rfl)
    have P2 := Lib.hid (And.intro F2 W2)
    clear F2 W2
    unfold pt
    go_enter Tryd.func24, Tryd.ntmps24
    go_wp2
    have mixed : Tryd.prog.follows Departure.mixedOrders = true := by kernel_rfl
    go_region_o
    all_goals (go_wp2; go_ret; exact ⟨rfl, P2.out⟩)
end Go.Proofs.YthlmjfjkjjoimaaDoor.Wd
