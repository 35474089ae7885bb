/-
  The document's check of candidates and numbers.
  Conditions: none but that they lie in memory.
-/
import Derived.Test.YtkmbeogmgehnfaaVoB
namespace Go.Proofs.Ytkmbeogmgehnfaa.Vo
open Go.RowKit Go.ChangeShapes Go.WideShapes Go.ChangeAt Go.Joins Fl Hu
set_option linter.unusedVariables false
set_option linter.unusedSimpArgs false

theorem Is.at {w : World} {a : Option Addr} {n cap : Nat} {L : List Int} (h : Is w (.slice a n cap) L) {k : Nat} {x : Int} (hk : L[k]? = some x) : ∃ b off, a = some ⟨b, off, none⟩ ∧ w.cell? ⟨b, off + k, none⟩ = some (.int .i64 x) := by
  obtain ⟨a', cap', e, _, _, h3⟩ := h
  cases e
  obtain ⟨b, off, ea, _, B⟩ := h3 (by have := (List.getElem?_eq_some_iff.1 hk).1; omega)
  exact ⟨b, off, ea, B k x hk⟩
theorem take_more {α : Type} {L : List α} {k : Nat} {x : α} (h : L[k]? = some x) : L.take (k + 1) = L.take k ++ [x] := by
  obtain ⟨h1, h2⟩ := List.getElem?_eq_some_iff.1 h
  rw [List.take_succ_eq_append_getElem h1, h2]
theorem all_more {α : Type} {P : α → Prop} {L : List α} {k : Nat} {x : α} (h : L[k]? = some x) (hk : ∀ s ∈ L.take k, P s) (hx : P x) : ∀ s ∈ L.take (k + 1), P s := by
  rw [take_more h]
  intro s hs
  rcases List.mem_append.1 hs with hs | hs
  · exact hk s hs
  · rw [List.mem_singleton.1 hs]; exact hx
theorem all_done {α : Type} {P : α → Prop} {L : List α} {m : Nat} (hm : L.length = m) (hk : ∀ s ∈ L.take m, P s) : ∀ s ∈ L, P s := by
  rwa [List.take_of_length_le (by rw [hm]; exact Nat.le_refl _)] at hk
theorem mem_take_at {α : Type} {L : List α} {j k : Nat} {y : α} (h : L[j]? = some y) (hj : j < k) : y ∈ L.take k :=
  List.mem_of_getElem? (i := j) (by rw [List.getElem?_take_of_lt hj]; exact h)
theorem nodup_more {L : List Int} {k : Nat} {x : Int} (h : L[k]? = some x) (hk : (L.take k).Nodup) (hx : ∀ y ∈ L.take k, y ≠ x) : (L.take (k + 1)).Nodup := by
  rw [take_more h]
  refine List.nodup_append.2 ⟨hk, by simp, fun a ha b hb => ?_⟩
  rw [List.mem_singleton.1 hb]
  exact hx a ha
set_option maxRecDepth 100000 in
set_option maxHeartbeats 8000000 in
theorem rCheck_c {w : World} {v sv : Value} {L : List Cd} {S : List Int} (h : Cs w v L) (hs : Is w sv S) (hn : L.length ≤ 8796093022208) (hn2 : S.length ≤ 35184372088832) :
    Calls Try.prog 20 #[v, sv] w fun e w' => e = .returned (.int .i64 (chE L S)) ∧ Below w.heap.size w w' := by
  have HS := Lib.hid h
  have HZ := Lib.hid hs
  obtain ⟨a, cap, rfl, c1, c2, _⟩ := h
  obtain ⟨sa, sc, rfl, p1, p2, _⟩ := hs
  obtain ⟨m, hm⟩ : ∃ m, L.length = m := ⟨_, rfl⟩
  obtain ⟨n, hsn⟩ : ∃ n, S.length = n := ⟨_, rfl⟩
  have HM := Lib.hid hm
  have HN := Lib.hid hsn
  have E3 : Hid (¬ okL L → chE L S = 3) := Lib.hid fun q => by unfold chE; rw [if_neg q]
  have E2 : Hid (okL L → ∀ i ∈ S, ¬ (0 ≤ i ∧ i < (m : Int)) → chE L S = 2) := Lib.hid fun q i hi z => by
    unfold chE
    rw [if_pos q, if_neg (fun k => z (hm ▸ k i hi))]
  have E7 : Hid (okL L → (∀ i ∈ S, 0 ≤ i ∧ i < (m : Int)) → ¬ S.Nodup → chE L S = 7) := Lib.hid fun q k z => by
    unfold chE
    rw [if_pos q, if_pos (hm ▸ k), if_neg z]
  have E0 : Hid (okL L → (∀ i ∈ S, 0 ≤ i ∧ i < (m : Int)) → S.Nodup → chE L S = 0) := Lib.hid fun q k z => by
    unfold chE
    rw [if_pos q, if_pos (hm ▸ k), if_pos z]
  rw [hm] at HS c1 hn ⊢
  rw [hsn] at HZ p1 hn2 ⊢
  have m0 : (0 : Int) ≤ (m : Int) := by omega
  have m1 : (m : Int) ≤ 8796093022208 := by omega
  have m2 : (m : Int) ≤ (cap : Int) := by omega
  have m3 : (cap : Int) ≤ 9223372036854775807 := by omega
  have n0 : (0 : Int) ≤ (n : Int) := by omega
  have n1 : (n : Int) ≤ 35184372088832 := by omega
  have n2 : (n : Int) ≤ (sc : Int) := by omega
  have n3 : (sc : Int) ≤ 9223372036854775807 := by omega
  by_cases big : 32 < m
  · have d1 : decide ((32 : Int) < (m : Int)) = true := decide_eq_true (by omega)
    have d2 : decide (32 < m) = true := decide_eq_true big
    rw [E3.out (fun q => by have := q.2; omega)]
    clear hm hsn
    go_enter Try.func20, Try.ntmps20
    go_wp2_with fail
    go_ret
    exact ⟨rfl, brefl w⟩
  have d1 : decide ((32 : Int) < (m : Int)) = false := decide_eq_false (by omega)
  have d2 : decide (32 < m) = false := decide_eq_false big
  clear hm hsn
  go_enter Try.func20, Try.ntmps20
  go_wp2_with fail
  go_loopw [5] (fun iv wr => ∃ k : Nat, k ≤ m ∧ iv = .int .i64 (k : Nat) ∧ (∀ s ∈ L.take k, okC s) ∧ Below w.heap.size w wr) (fun iv _ => m - (intOf iv).toNat)
  case atStart => exact ⟨0, by omega, rfl, by simp, brefl w⟩
  case round =>
    obtain ⟨k, hk, rfl, hok, hb⟩ := hrel
    rename World => wr
    have HB := Lib.hid hb
    have HK := Lib.hid hok
    clear hb hok
    by_cases c : k < m
    · have e1 : decide ((k : Int) < (m : Int)) = true := decide_eq_true (by omega)
      have e2 : decide (k < m) = true := decide_eq_true c
      have k1 : (k : Int) < (m : Int) := by omega
      have wk : IntKind.i64.wrap ((k : Int) + 1) = (k : Int) + 1 := wrap_in (by omega) (by omega)
      obtain ⟨x, hx⟩ : ∃ x, L[k]? = some x := ⟨_, List.getElem?_eq_getElem (by rw [HM.out]; exact c)⟩
      have IS := Lib.hid (fun w => rIs_c x w)
      have HX := Lib.hid hx
      obtain ⟨b, off, rfl, y0, y1, y2, y3⟩ := (HS.out.below HB.out).at hx
      clear hx
      by_cases ok : okC x
      · rw [decide_eq_true ok] at IS
        have NK := Lib.hid (all_more HX.out HK.out ok)
        obtain ⟨xo, xd, xj, xs⟩ := x
        simp only at y0 y1 y2 y3
        replace IS : Hid (∀ w, Calls Try.prog 40 #[.agg #[.int .i64 xo, .int .i64 xd, .int .i64 xj, .int .i64 xs]] w fun e w' => e = .returned (.bool true) ∧ Below w.heap.size w w') := IS
        clear ok
        go_wp2_with fail
        refine (IS.out _).mono ?_
        rintro e w3 ⟨rfl, hb⟩
        have B3 := Lib.hid (bstep HB.out hb)
        clear hb y0 y1 y2 y3
        go_wp2_with fail
        exact ⟨⟨k + 1, by omega, by go_num, NK.out, B3.out⟩, by simp [intOf]; omega⟩
      · rw [decide_eq_false ok] at IS
        have NO := Lib.hid (E3.out (fun q => ok (q.1 x (List.mem_of_getElem? HX.out))))
        obtain ⟨xo, xd, xj, xs⟩ := x
        simp only at y0 y1 y2 y3
        replace IS : Hid (∀ w, Calls Try.prog 40 #[.agg #[.int .i64 xo, .int .i64 xd, .int .i64 xj, .int .i64 xs]] w fun e w' => e = .returned (.bool false) ∧ Below w.heap.size w w') := IS
        clear ok
        go_wp2_with fail
        refine (IS.out _).mono ?_
        rintro e w3 ⟨rfl, hb⟩
        have B3 := Lib.hid (bstep HB.out hb)
        clear hb y0 y1 y2 y3
        go_wp2_with fail
        go_ret
        exact ⟨by rw [NO.out]; rfl, B3.out⟩
    · have e1 : decide ((k : Int) < (m : Int)) = false := decide_eq_false (by omega)
      have e2 : decide (k < m) = false := decide_eq_false c
      obtain rfl : k = m := by omega
      have OK : Hid (okL L) := Lib.hid ⟨all_done HM.out HK.out, by rw [HM.out]; omega⟩
      clear HK
      go_wp2_with fail
      go_loopw [6] (fun iv w2 => ∃ j : Nat, j ≤ n ∧ iv = .int .i64 (j : Nat) ∧ (∀ i ∈ S.take j, 0 ≤ i ∧ i < (k : Int)) ∧ Below w.heap.size w w2) (fun iv _ => n - (intOf iv).toNat)
      case atStart => exact ⟨0, by omega, rfl, by simp, HB.out⟩
      case round =>
        obtain ⟨j, hj, rfl, hin, hb⟩ := hrel
        rename World => w2
        have B2 := Lib.hid hb
        have HI := Lib.hid hin
        clear hb hin HB
        by_cases cj : j < n
        · have f1 : decide ((j : Int) < (n : Int)) = true := decide_eq_true (by omega)
          have f2 : decide (j < n) = true := decide_eq_true cj
          have j1 : (j : Int) < (n : Int) := by omega
          have j0 : (0 : Int) ≤ (j : Int) := by omega
          have wj : IntKind.i64.wrap ((j : Int) + 1) = (j : Int) + 1 := wrap_in (by omega) (by omega)
          obtain ⟨x, hx⟩ : ∃ x, S[j]? = some x := ⟨_, List.getElem?_eq_getElem (by rw [HN.out]; exact cj)⟩
          have HX := Lib.hid hx
          obtain ⟨b, off, rfl, y0⟩ := (HZ.out.below B2.out).at hx
          clear hx
          by_cases q1 : x < 0
          · have g1 := decide_eq_true q1
            have NO := Lib.hid (E2.out OK.out x (List.mem_of_getElem? HX.out) (fun z => by omega))
            go_wp2_with fail
            go_ret
            exact ⟨by rw [NO.out]; rfl, B2.out⟩
          · have g1 := decide_eq_false q1
            by_cases q2 : (k : Int) ≤ x
            · have g2 := decide_eq_true q2
              have NO := Lib.hid (E2.out OK.out x (List.mem_of_getElem? HX.out) (fun z => by omega))
              go_wp2_with fail
              go_ret
              exact ⟨by rw [NO.out]; rfl, B2.out⟩
            · have g2 := decide_eq_false q2
              have NI := Lib.hid (all_more HX.out HI.out ⟨by omega, by omega⟩)
              go_wp2_with fail
              exact ⟨⟨j + 1, by omega, by go_num, NI.out, B2.out⟩, by simp [intOf]; omega⟩
        · have f1 : decide ((j : Int) < (n : Int)) = false := decide_eq_false (by omega)
          have f2 : decide (j < n) = false := decide_eq_false cj
          obtain rfl : j = n := by omega
          have IN := Lib.hid (all_done HN.out HI.out)
          clear HI
          go_wp2_with fail
          go_loopw [7] (fun iv w3 => ∃ i : Nat, i ≤ j ∧ iv = .int .i64 (i : Nat) ∧ (S.take i).Nodup ∧ Below w.heap.size w w3) (fun iv _ => j - (intOf iv).toNat)
          case atStart => exact ⟨0, by omega, rfl, by simp, B2.out⟩
          case round =>
            obtain ⟨i, hi, rfl, hnd, hb⟩ := hrel
            rename World => w3
            have B3 := Lib.hid hb
            have ND := Lib.hid hnd
            clear hb hnd B2
            by_cases ci : i < j
            · have f3 : decide ((i : Int) < (j : Int)) = true := decide_eq_true (by omega)
              have f4 : decide (i < j) = true := decide_eq_true ci
              have i1 : (i : Int) < (j : Int) := by omega
              have i0 : (0 : Int) ≤ (i : Int) := by omega
              have wi : IntKind.i64.wrap ((i : Int) + 1) = (i : Int) + 1 := wrap_in (by omega) (by omega)
              obtain ⟨x, hx⟩ : ∃ x, S[i]? = some x := ⟨_, List.getElem?_eq_getElem (by rw [HN.out]; exact ci)⟩
              have HX := Lib.hid hx
              clear hx
              go_wp2_with fail
              go_loopw [8] (fun iv w4 => ∃ l : Nat, l ≤ i ∧ iv = .int .i64 (l : Nat) ∧ (∀ y ∈ S.take l, y ≠ x) ∧ Below w.heap.size w w4) (fun iv _ => i - (intOf iv).toNat)
              case atStart => exact ⟨0, by omega, rfl, by simp, B3.out⟩
              case round =>
                obtain ⟨l, hl, rfl, hne, hb⟩ := hrel
                rename World => w4
                have B4 := Lib.hid hb
                have NE := Lib.hid hne
                clear hb hne B3
                by_cases cl : l < i
                · have f5 : decide ((l : Int) < (i : Int)) = true := decide_eq_true (by omega)
                  have f6 : decide (l < i) = true := decide_eq_true cl
                  have l1 : (l : Int) < (j : Int) := by omega
                  have l0 : (0 : Int) ≤ (l : Int) := by omega
                  have wl : IntKind.i64.wrap ((l : Int) + 1) = (l : Int) + 1 := wrap_in (by omega) (by omega)
                  obtain ⟨y, hy⟩ : ∃ y, S[l]? = some y := ⟨_, List.getElem?_eq_getElem (by rw [HN.out]; omega)⟩
                  have HY := Lib.hid hy
                  obtain ⟨b, off, rfl, y0⟩ := (HZ.out.below B4.out).at HX.out
                  obtain ⟨b', off', ee, y1⟩ := (HZ.out.below B4.out).at hy
                  cases ee
                  clear hy
                  by_cases q : x = y
                  · have g1 : (x == y) = true := by simpa using q
                    have NO := Lib.hid (E7.out OK.out IN.out (fun z => by
                      have z2 : (S.take (i + 1)).Nodup := z.sublist (List.take_sublist ..)
                      rw [take_more HX.out, List.nodup_append] at z2
                      exact z2.2.2 y (mem_take_at HY.out cl) x (by simp) q.symm))
                    go_upto_region 19 with fail
                    go_quiet (fail)
                    go_wp2_with fail
                    go_ret
                    exact ⟨by rw [NO.out]; rfl, bdrew B4.out _⟩
                  · have g1 : (x == y) = false := by simpa using q
                    have NN := Lib.hid (all_more (P := fun y => y ≠ x) HY.out NE.out (fun z => q z.symm))
                    go_upto_region 19 with fail
                    go_quiet (fail)
                    go_wp2_with fail
                    exact ⟨⟨l + 1, by omega, by go_num, NN.out, bdrew B4.out _⟩, by simp [intOf]; omega⟩
                · have f5 : decide ((l : Int) < (i : Int)) = false := decide_eq_false (by omega)
                  have f6 : decide (l < i) = false := decide_eq_false cl
                  obtain rfl : l = i := by omega
                  have NM := Lib.hid (nodup_more HX.out ND.out NE.out)
                  go_wp2_with fail
                  exact ⟨⟨l + 1, by omega, by go_num, NM.out, B4.out⟩, by simp [intOf]; omega⟩
            · have f3 : decide ((i : Int) < (j : Int)) = false := decide_eq_false (by omega)
              have f4 : decide (i < j) = false := decide_eq_false ci
              obtain rfl : i = j := by omega
              have NA : Hid S.Nodup := Lib.hid (by have := ND.out; rwa [List.take_of_length_le (by rw [HN.out]; exact Nat.le_refl _)] at this)
              have NO := Lib.hid (E0.out OK.out IN.out NA.out)
              go_wp2_with fail
              go_ret
              exact ⟨by rw [NO.out]; rfl, B3.out⟩
end Go.Proofs.Ytkmbeogmgehnfaa.Vo
