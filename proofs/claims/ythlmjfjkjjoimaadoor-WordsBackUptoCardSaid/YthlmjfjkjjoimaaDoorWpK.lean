/-
  A call whose answer the document fixes.
-/
import Derived.Test.YthlmjfjkjjoimaaDoorWpJ
namespace Go.Proofs.YthlmjfjkjjoimaaDoor.Wd
open Go.ChangeShapes Go.WideShapes Go.ChangeAt Go.RowKit Go.Joins By
set_option linter.unusedVariables false
set_option linter.unusedSimpArgs false

def kLine : ByteArray := ⟨#[115, 101, 114, 118, 101, 114, 32, 34, 97, 32, 98, 34, 32, 35, 32, 120]⟩
def kWords : List W3 := [⟨⟨#[115, 101, 114, 118, 101, 114]⟩, 0, false⟩, ⟨⟨#[97, 32, 98]⟩, 7, true⟩]
set_option maxRecDepth 100000 in
theorem spR_known : spR kLine = .inr kWords := by kernel_rfl
set_option maxRecDepth 100000 in
theorem wn_known : wn ⟨#[52, 50]⟩ = true := by kernel_rfl
set_option maxRecDepth 100000 in
theorem va_known : va ⟨#[52, 50]⟩ (ByteArray.size ⟨#[52, 50]⟩) = 42 := by kernel_rfl

set_option maxRecDepth 100000 in
set_option maxHeartbeats 4000000 in
theorem awake7_c (w : World) :
    Calls Tryd.prog 6 #[] w fun e w' => e = .returned (.bool true) ∧ Below w.heap.size w w' := by
  have SC := Split_c kLine w (by decide)
  rw [spR_known] at SC
  simp only [fWhy, fChar, fWords] at SC
  unfold kLine at SC
  go_enter Tryd.func6, Tryd.ntmps6
  go_wp2_with fail
  refine SC.mono ?_
  rintro e w1 ⟨v, rfl, own, hb⟩
  obtain ⟨g, cap, rfl, hg, hc, hk⟩ : ∃ g cap, v = .slice (some ⟨g, 0, none⟩) 2 cap ∧ g < w1.heap.size ∧ 2 ≤ cap ∧ (w1.cell? ⟨g, 3, none⟩ = some (.string ⟨#[97, 32, 98]⟩) ∧ w1.cell? ⟨g, 4, none⟩ = some (.int .i64 7) ∧ w1.cell? ⟨g, 5, none⟩ = some (.bool true)) := by
    rcases own.2 with ⟨_, h0⟩ | ⟨g, cap, cur, hv, hb, hh, hc, hm, hs, ht⟩
    · cases h0
    · refine ⟨g, cap, hv, (Array.getElem?_eq_some_iff.1 hh).1, hc, ?_, ?_, ?_⟩
      · have := (w3_at kWords 1 _ rfl).1
        rw [← (show cur.toList.take (2 * 3) = w3 kWords from ht), List.getElem?_take_of_lt (by omega)] at this
        simp only [Array.getElem?_toList] at this
        simp [World.cell?, hh, this]
      · have := (w3_at kWords 1 _ rfl).2.1
        rw [← (show cur.toList.take (2 * 3) = w3 kWords from ht), List.getElem?_take_of_lt (by omega)] at this
        simp only [Array.getElem?_toList] at this
        simp [World.cell?, hh, this]
      · have := (w3_at kWords 1 _ rfl).2.2
        rw [← (show cur.toList.take (2 * 3) = w3 kWords from ht), List.getElem?_take_of_lt (by omega)] at this
        simp only [Array.getElem?_toList] at this
        simp [World.cell?, hh, this]
  clear own
  have BB := Lib.hid hb
  have HK := Lib.hid hk
  clear hb hk
  have NC := Number_c ⟨#[52, 50]⟩ (w1.alloc (.cells #[.int .i64 0, .int .i64 0, .int .i64 0] 26)) (by decide)
  rw [wn_known, va_known] at NC
  simp only [if_true] at NC
  have F0 : (w1.alloc (.cells #[.int .i64 0, .int .i64 0, .int .i64 0] 26)).heap[w1.heap.size]? = some fa0 := heap_alloc_new w1 _
  have L0 : w1.heap.size < (w1.alloc (.cells #[.int .i64 0, .int .i64 0, .int .i64 0] 26)).heap.size := by simp
  have B1 := Lib.hid (balloc BB.out (.cells #[.int .i64 0, .int .i64 0, .int .i64 0] 26))
  have c3 := ((balloc (brefl w1) (.cells #[.int .i64 0, .int .i64 0, .int .i64 0] 26)).cell (p := ⟨g, 3, none⟩) hg).trans HK.out.1
  have c4 := ((balloc (brefl w1) (.cells #[.int .i64 0, .int .i64 0, .int .i64 0] 26)).cell (p := ⟨g, 4, none⟩) hg).trans HK.out.2.1
  have c5 := ((balloc (brefl w1) (.cells #[.int .i64 0, .int .i64 0, .int .i64 0] 26)).cell (p := ⟨g, 5, none⟩) hg).trans HK.out.2.2
  go_wp2_with fail
  generalize w1.alloc (.cells #[.int .i64 0, .int .i64 0, .int .i64 0] 26) = w2 at *
  refine NC.mono ?_
  rintro e w3 ⟨rfl, hb⟩
  have g3 := (hb.cell (p := ⟨g, 3, none⟩) (by show g < _; omega)).trans c3
  have g4 := (hb.cell (p := ⟨g, 4, none⟩) (by show g < _; omega)).trans c4
  have g5 := (hb.cell (p := ⟨g, 5, none⟩) (by show g < _; omega)).trans c5
  obtain ⟨a0, a1, a2, _, _, _⟩ := fa_cells ((hb.block _ L0).trans F0)
  have BZ := Lib.hid (bstep B1.out hb)
  have q1 : (2 : Int) ≤ (cap : Int) := by omega
  clear F0 c3 c4 c5 hb NC HK SC B1 BB
  go_wp2_with fail
  go_ret
  exact ⟨rfl, BZ.out⟩
end Go.Proofs.YthlmjfjkjjoimaaDoor.Wd
