/-
  Rows of words: what a call owns, what it reads; the contract of sundialref07.Same.
-/
import Derived.Test.YthlmjfjkjjoimaaDoorWdF
import Derived.Test.YthlmjfjkjjoimaaDoorWdR
namespace Go.Proofs.YthlmjfjkjjoimaaDoor.Wd
open Go.ChangeShapes Go.WideShapes Go.ChangeAt Go.RowKit Go.Joins By
set_option linter.unusedVariables false
set_option linter.unusedSimpArgs false

def w0 : W3 := ⟨⟨#[]⟩, 0, false⟩
def eqW (x y : W3) : Bool := x.t.toList == y.t.toList && x.c == y.c && x.q == y.q
def sm (L M : List W3) : Bool := decide (L.length = M.length) && (List.range L.length).all fun i => eqW (L.getD i w0) (M.getD i w0)
theorem w_at (L : List W3) (i : Nat) (h : i < L.length) : L[i]? = some (L.getD i w0) := by
  rw [List.getD_eq_getElem?_getD, List.getElem?_eq_getElem h]
  rfl
theorem sm_no {L M : List W3} {k : Nat} (h : k < L.length) (e : eqW (L.getD k w0) (M.getD k w0) = false) : sm L M = false := by
  cases h' : sm L M with
  | false => rfl
  | true =>
    simp only [sm, Bool.and_eq_true, List.all_eq_true, List.mem_range] at h'
    rw [h'.2 k h] at e; cases e
theorem sm_yes {L M : List W3} (hl : L.length = M.length) (h : ∀ i, i < L.length → eqW (L.getD i w0) (M.getD i w0) = true) : sm L M = true := by
  simp only [sm, Bool.and_eq_true, List.all_eq_true, List.mem_range, decide_eq_true_eq]
  exact ⟨hl, h⟩

set_option maxRecDepth 100000 in
set_option maxHeartbeats 4000000 in
theorem rSame_c {w : World} {v u : Value} {L M : List W3} (R : Rw w v L) (T : Rw w u M) :
    Calls Tryd.prog 9 #[v, u] w fun e w' => e = .returned (.bool (sm L M)) ∧ Below w.heap.size w w' := by
  have RR := Lib.hid R
  have TT := Lib.hid T
  obtain ⟨a, cap, rfl, h1, h2, h3⟩ := R
  obtain ⟨a', cap', rfl, h1', h2', h3'⟩ := T
  have H3 := Lib.hid h3
  have H4 := Lib.hid h3'
  clear h3 h3'
  by_cases cl : L.length = M.length
  · have f0 : ((L.length : Int) != (M.length : Int)) = false := by simp; omega
    have CL := Lib.hid cl
    go_enter Tryd.func9, Tryd.ntmps9
    go_wp2_with fail
    go_loopw [5] (fun iv wr => ∃ k : Nat, k ≤ L.length ∧ iv = .int .i64 k ∧ (∀ j, j < k → eqW (L.getD j w0) (M.getD j w0) = true) ∧ Below w.heap.size w wr) (fun iv _ => L.length - (intOf iv).toNat)
    case atStart => exact ⟨0, Nat.zero_le _, rfl, fun j hj => absurd hj (Nat.not_lt_zero _), brefl w⟩
    case round =>
      obtain ⟨k, hk, rfl, hn, hb⟩ := hrel
      rename World => wr
      have NO := Lib.hid hn
      have BB := Lib.hid hb
      clear hn hb
      by_cases c : k < L.length
      · have f1 : decide ((k : Int) < (L.length : Int)) = true := by rw [decide_eq_true_iff]; omega
        have cM : k < M.length := by omega
        obtain ⟨b, off, rfl, hbl, hK⟩ := H3.out (by omega)
        obtain ⟨b', off', rfl, hbl', hK'⟩ := H4.out (by omega)
        obtain ⟨x1, x2, x3⟩ := hK k _ (w_at L k c)
        obtain ⟨y1, y2, y3⟩ := hK' k _ (w_at M k cM)
        rw [← BB.out.cell (p := ⟨b, _, none⟩) hbl] at x1 x2 x3
        rw [← BB.out.cell (p := ⟨b', _, none⟩) hbl'] at y1 y2 y3
        have k1 : (k : Int) < (L.length : Int) := by omega
        have k2 : (k : Int) < (M.length : Int) := by omega
        have HN : Hid (eqW (L.getD k w0) (M.getD k w0) = false → sm L M = false) := Lib.hid (sm_no c)
        have HY : Hid (eqW (L.getD k w0) (M.getD k w0) = true → ∀ j, j < k + 1 → eqW (L.getD j w0) (M.getD j w0) = true) := Lib.hid (fun e j hj => by
          by_cases ej : j = k
          · subst ej; exact e
          · exact NO.out j (by omega))
        clear hK hK' H3 H4 NO
        generalize L.getD k w0 = x at *
        generalize M.getD k w0 = y at *
        obtain ⟨xt, xc, xq⟩ := x
        obtain ⟨yt, yc, yq⟩ := y
        simp only at x1 x2 x3 y1 y2 y3
        by_cases e1 : xt.toList = yt.toList
        · by_cases e2 : xc = yc
          · by_cases e3 : xq = yq
            · have HE := Lib.hid (HY.out (by simp [eqW, e1, e2, e3]))
              clear HN HY
              go_wp2_with fail
              go_quiet (fail)
              go_wp2_with fail
              go_roundw
              case rel => exact ⟨k + 1, by omega, by go_num, HE.out, bdrew BB.out nq⟩
              case measure => simp [intOf]; omega
            · have HS : Hid (sm L M = false) := Lib.hid (HN.out (by simp [eqW, e3]))
              clear HN HY
              go_wp2_with fail
              go_quiet (fail)
              go_wp2_with fail
              go_ret
              exact ⟨by rw [HS.out]; rfl, bdrew BB.out nq⟩
          · have HS : Hid (sm L M = false) := Lib.hid (HN.out (by simp [eqW, e2]))
            clear HN HY
            go_wp2_with fail
            go_quiet (fail)
            go_wp2_with fail
            go_ret
            exact ⟨by rw [HS.out]; rfl, bdrew BB.out nq⟩
        · have HS : Hid (sm L M = false) := Lib.hid (HN.out (by simp [eqW, e1]))
          clear HN HY
          go_wp2_with fail
          go_quiet (fail)
          go_wp2_with fail
          go_ret
          exact ⟨by rw [HS.out]; rfl, bdrew BB.out nq⟩
      · have f1 : decide ((k : Int) < (L.length : Int)) = false := by rw [decide_eq_false_iff_not]; omega
        have HS : Hid (sm L M = true) := Lib.hid (sm_yes CL.out fun i hi => NO.out i (by omega))
        go_wp2_with fail
        go_ret
        exact ⟨by rw [HS.out]; rfl, BB.out⟩
  · have HS : Hid (sm L M = false) := Lib.hid (by unfold sm; rw [decide_eq_false cl]; rfl)
    have f0 : ((L.length : Int) != (M.length : Int)) = true := by simp; omega
    go_enter Tryd.func9, Tryd.ntmps9
    go_wp2_with fail
    go_ret
    exact ⟨by rw [HS.out]; rfl, brefl w⟩
end Go.Proofs.YthlmjfjkjjoimaaDoor.Wd
