/-
  The contract of sundialref08.Same: two tables.
  Conditions: none.
-/
import Derived.Test.YtmehknhajoemgaaDoorLpF
namespace Go.Proofs.YtmehknhajoemgaaDoor.Lp
open Go.RowKit Go.ChangeShapes Go.WideShapes Go.ChangeAt Go.Joins Cv
set_option linter.unusedVariables false
set_option linter.unusedSimpArgs false

/-- two tables are the same. -/
def smC (n m : Nat) (a o a' o' : Nat → Int) (e e' : Int) : Bool := decide (e = e') && decide (n = m) && (List.range n).all fun i => decide (a i = a' i) && decide (o i = o' i)
theorem smC_no {n m : Nat} {a o a' o' : Nat → Int} {e e' : Int} {k : Nat} (h : k < n) (q : (decide (a k = a' k) && decide (o k = o' k)) = false) : smC n m a o a' o' e e' = false := by
  cases h' : smC n m a o a' o' e e' with
  | false => rfl
  | true =>
    simp only [smC, Bool.and_eq_true, List.all_eq_true, List.mem_range] at h'
    have := h'.2 k h
    rw [this.1, this.2] at q
    cases q
theorem smC_yes {n m : Nat} {a o a' o' : Nat → Int} {e e' : Int} (h1 : e = e') (h2 : n = m) (h : ∀ i, i < n → (decide (a i = a' i) && decide (o i = o' i)) = true) : smC n m a o a' o' e e' = true := by
  rw [smC, decide_eq_true h1, decide_eq_true h2]
  simp only [Bool.true_and, List.all_eq_true, List.mem_range]
  exact h
theorem smC_self (n : Nat) (a o : Nat → Int) (e : Int) : smC n n a o a o e e = true := smC_yes rfl rfl fun i _ => by simp

def boxOf (v : Value) (e : Int) : Obj := .cells #[v, .int .i64 e] 25
set_option maxRecDepth 100000 in
set_option maxHeartbeats 4000000 in
theorem lSame_c {w : World} {va vb : Value} {n m : Nat} {a o a' o' : Nat → Int} {e e' : Int} (A : Cs w va n a o) (B : Cs w vb m a' o') :
    Calls Tryd.prog 8 #[lv va e, lv vb e'] w fun x w' => x = .returned (.bool (smC n m a o a' o' e e')) ∧ Below w.heap.size w w' := by
  obtain ⟨ad, cap, rfl, a1, a2, a3, a4⟩ := A
  obtain ⟨bd, cap', rfl, b1, b2, b3, b4⟩ := B
  have H3 := Lib.hid a4
  have H4 := Lib.hid b4
  clear a3 a4 b3 b4
  unfold lv
  go_enter Tryd.func8, Tryd.ntmps8
  by_cases ce : e = e'
  · by_cases cl : n = m
    · subst ce
      subst cl
      go_wp2_with fail
      have X1 : Below w.heap.size w ((w.alloc (boxOf (.slice ad n cap) e)).alloc (boxOf (.slice bd n cap') e)) := balloc (balloc (brefl w) _) _
      have X2 := Lib.hid X1
      have g0 : ((w.alloc (boxOf (.slice ad n cap) e)).alloc (boxOf (.slice bd n cap') e)).cell? ⟨w.heap.size, 0, none⟩ = some (.slice ad n cap) := by
        have h1 : ((w.alloc (boxOf (.slice ad n cap) e)).alloc (boxOf (.slice bd n cap') e)).heap[w.heap.size]? = some (boxOf (.slice ad n cap) e) := by
          rw [Lib.alloc_old _ _ w.heap.size (by simp)]
          exact heap_alloc_new w _
        simp only [World.cell?, h1]
        rfl
      have g1 : ((w.alloc (boxOf (.slice ad n cap) e)).alloc (boxOf (.slice bd n cap') e)).cell? ⟨w.heap.size + 1, 0, none⟩ = some (.slice bd n cap') := by
        have h1 : ((w.alloc (boxOf (.slice ad n cap) e)).alloc (boxOf (.slice bd n cap') e)).heap[w.heap.size + 1]? = some (boxOf (.slice bd n cap') e) := by
          have := heap_alloc_new (w.alloc (boxOf (.slice ad n cap) e)) (boxOf (.slice bd n cap') e)
          rwa [show (w.alloc (boxOf (.slice ad n cap) e)).heap.size = w.heap.size + 1 from by simp] at this
        simp only [World.cell?, h1]
        rfl
      have z2 : w.heap.size + 1 < ((w.alloc (boxOf (.slice ad n cap) e)).alloc (boxOf (.slice bd n cap') e)).heap.size := by simp
      clear X1
      unfold boxOf at *
      generalize (w.alloc (.cells #[.slice ad n cap, .int .i64 e] 25)).alloc (.cells #[.slice bd n cap', .int .i64 e] 25) = w2 at *
      have G0 := Lib.hid g0
      have G1 := Lib.hid g1
      clear g0 g1
      go_loopw [5] (fun iv wr => ∃ k : Nat, k ≤ n ∧ iv = .int .i64 k ∧ (∀ j, j < k → (decide (a j = a' j) && decide (o j = o' j)) = true) ∧ Below w2.heap.size w2 wr) (fun iv _ => n - (intOf iv).toNat)
      case atStart => exact ⟨0, Nat.zero_le _, rfl, fun j hj => absurd hj (Nat.not_lt_zero _), brefl w2⟩
      case round =>
        obtain ⟨k, hk, rfl, hn, hb⟩ := hrel
        rename World => wr
        have NO := Lib.hid hn
        have BB := Lib.hid hb
        have c0 := (hb.cell (p := ⟨w.heap.size, 0, none⟩) (by show w.heap.size < _; omega)).trans G0.out
        have c1 := (hb.cell (p := ⟨w.heap.size + 1, 0, none⟩) z2).trans G1.out
        clear hn hb
        by_cases c : k < n
        · have f1 : decide ((k : Int) < (n : Int)) = true := by rw [decide_eq_true_iff]; omega
          obtain ⟨b, off, rfl, hbl, hK⟩ := H3.out (by omega)
          obtain ⟨b', off', rfl, hbl', hK'⟩ := H4.out (by omega)
          have q := bstep X2.out BB.out
          obtain ⟨x1, x2⟩ := hK k c
          obtain ⟨y1, y2⟩ := hK' k c
          rw [← q.cell (p := ⟨b, _, none⟩) hbl] at x1 x2
          rw [← q.cell (p := ⟨b', _, none⟩) hbl'] at y1 y2
          have k1 : (k : Int) < (n : Int) := by omega
          have HN : Hid ((decide (a k = a' k) && decide (o k = o' k)) = false → smC n n a o a' o' e e = false) := Lib.hid (smC_no c)
          have HY : Hid ((decide (a k = a' k) && decide (o k = o' k)) = true → ∀ j, j < k + 1 → (decide (a j = a' j) && decide (o j = o' j)) = true) := Lib.hid (fun h j hj => by
            by_cases ej : j = k
            · subst ej; exact h
            · exact NO.out j (by omega))
          clear hK hK' H3 H4 NO q G0 G1
          generalize a k = ak at *
          generalize o k = ok at *
          generalize a' k = ak' at *
          generalize o' k = ok' at *
          by_cases e1 : ak = ak'
          · by_cases e2 : ok = ok'
            · have HE := Lib.hid (HY.out (by rw [decide_eq_true e1, decide_eq_true e2]; rfl))
              clear HN HY
              go_wp2_with fail
              go_quiet (fail)
              go_wp2_with fail
              go_roundw
              case rel => exact ⟨k + 1, by omega, by go_num, HE.out, bdrew BB.out nq⟩
              case measure => simp [intOf]; omega
            · have HS : Hid (smC n n a o a' o' e e = false) := Lib.hid (HN.out (by rw [decide_eq_false e2, Bool.and_false]))
              clear HN HY
              go_wp2_with fail
              go_quiet (fail)
              go_wp2_with fail
              go_ret
              exact ⟨by rw [HS.out]; rfl, bstep X2.out (bdrew BB.out nq)⟩
          · have HS : Hid (smC n n a o a' o' e e = false) := Lib.hid (HN.out (by rw [decide_eq_false e1, Bool.false_and]))
            clear HN HY
            go_wp2_with fail
            go_quiet (fail)
            go_wp2_with fail
            go_ret
            exact ⟨by rw [HS.out]; rfl, bstep X2.out (bdrew BB.out nq)⟩
        · have f1 : decide ((k : Int) < (n : Int)) = false := by rw [decide_eq_false_iff_not]; omega
          have HS : Hid (smC n n a o a' o' e e = true) := Lib.hid (smC_yes rfl rfl fun i hi => NO.out i (by omega))
          go_wp2_with fail
          go_ret
          exact ⟨by rw [HS.out]; rfl, bstep X2.out BB.out⟩
    · have HS : Hid (smC n m a o a' o' e e' = false) := Lib.hid (by rw [smC, decide_eq_false cl]; simp)
      subst ce
      have f0 : ((n : Int) != (m : Int)) = true := by simp; omega
      go_wp2_with fail
      go_ret
      exact ⟨by rw [HS.out]; rfl, balloc (balloc (brefl w) _) _⟩
  · have HS : Hid (smC n m a o a' o' e e' = false) := Lib.hid (by rw [smC, decide_eq_false ce]; simp)
    have f0 : (e != e') = true := by simp [ce]
    go_wp2_with fail
    go_ret
    exact ⟨by rw [HS.out]; rfl, balloc (balloc (brefl w) _) _⟩
end Go.Proofs.YtmehknhajoemgaaDoor.Lp
