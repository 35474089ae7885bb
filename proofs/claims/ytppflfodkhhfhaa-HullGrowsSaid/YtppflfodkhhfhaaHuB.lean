/-
  The document's check, count and Held of spans.
  Conditions: none but that the spans lie in memory.
-/
import Derived.Test.YtppflfodkhhfhaaHuA
namespace Go.Proofs.Ytppflfodkhhfhaa.Hu
open Go.RowKit Go.ChangeShapes Go.WideShapes Go.ChangeAt Go.Joins Fl
set_option linter.unusedVariables false
set_option linter.unusedSimpArgs false

def okT (t : Int) : Prop := -2305843009213693952 ≤ t ∧ t ≤ 2305843009213693952
instance (t : Int) : Decidable (okT t) := by unfold okT; infer_instance
theorem rIs_c (t : Int) (w : World) : Calls Try.prog 22 #[.int .i64 t] w fun e w' => e = .returned (.bool (decide (okT t))) ∧ w' = w := by
  by_cases c1 : -2305843009213693952 ≤ t
  · have e1 := decide_eq_true c1
    by_cases c2 : t ≤ 2305843009213693952
    · have e2 := decide_eq_true c2
      rw [show decide (okT t) = true from decide_eq_true ⟨c1, c2⟩]
      go_enter Try.func22, Try.ntmps22
      go_wp2_with fail
      go_ret
      exact ⟨rfl, rfl⟩
    · have e2 := decide_eq_false c2
      rw [show decide (okT t) = false from decide_eq_false fun h => c2 h.2]
      go_enter Try.func22, Try.ntmps22
      go_wp2_with fail
      go_ret
      exact ⟨rfl, rfl⟩
  · have e1 := decide_eq_false c1
    rw [show decide (okT t) = false from decide_eq_false fun h => c1 h.1]
    go_enter Try.func22, Try.ntmps22
    go_wp2_with fail
    go_ret
    exact ⟨rfl, rfl⟩
theorem rHas_c (s : Sn) (t : Int) (w : World) : Calls Try.prog 26 #[NV s, .int .i64 t] w fun e w' => e = .returned (.bool (has t s)) ∧ Below w.heap.size w w' := by
  obtain ⟨a, b⟩ := s
  have B := Lib.hid (balloc (brefl w) (.cells #[.int .i64 a, .int .i64 b] 25))
  show Calls Try.prog 26 #[.agg #[.int .i64 a, .int .i64 b], .int .i64 t] w fun e w' => e = .returned (.bool (decide (a ≤ t) && decide (t ≤ b))) ∧ Below w.heap.size w w'
  cases c1 : decide (a ≤ t) with
  | true =>
    cases c2 : decide (t ≤ b) with
    | true =>
      go_enter Try.func26, Try.ntmps26
      go_wp2_with fail
      go_ret
      exact ⟨rfl, B.out⟩
    | false =>
      go_enter Try.func26, Try.ntmps26
      go_wp2_with fail
      go_ret
      exact ⟨rfl, B.out⟩
  | false =>
    go_enter Try.func26, Try.ntmps26
    go_wp2_with fail
    go_ret
    exact ⟨rfl, B.out⟩
/-- are they spans, and not too many? -/
def okL (L : List Sn) : Prop := (∀ s ∈ L, okN s) ∧ L.length ≤ 32
instance (L : List Sn) : Decidable (okL L) := by unfold okL; infer_instance
theorem take_all {L : List Sn} {k : Nat} {x : Sn} (h : L[k]? = some x) (hk : ∀ s ∈ L.take k, okN s) (hx : okN x) : ∀ s ∈ L.take (k + 1), okN s := by
  obtain ⟨h1, h2⟩ := List.getElem?_eq_some_iff.1 h
  rw [List.take_succ_eq_append_getElem h1, h2]
  intro s hs
  rcases List.mem_append.1 hs with hs | hs
  · exact hk s hs
  · rw [List.mem_singleton.1 hs]; exact hx
set_option maxRecDepth 100000 in
set_option maxHeartbeats 2000000 in
theorem rcheck_c {w : World} {v : Value} {L : List Sn} (h : Hs w v L) (hn : L.length ≤ 8796093022208) :
    Calls Try.prog 18 #[v] w fun e w' => e = .returned (.bool (decide (okL L))) ∧ Below w.heap.size w w' := by
  have HS := Lib.hid h
  obtain ⟨a, cap, rfl, c1, c2, _⟩ := h
  obtain ⟨m, hm⟩ : ∃ m, L.length = m := ⟨_, rfl⟩
  have HM := Lib.hid hm
  have HO : Hid (∀ b : Bool, ((∀ s ∈ L, okN s) → b = decide (m ≤ 32)) → (¬ (∀ s ∈ L, okN s) → b = false) → b = decide (okL L)) := Lib.hid fun b h1 h2 => by
    by_cases c : ∀ s ∈ L, okN s
    · rw [h1 c]
      exact decide_eq_decide.2 ⟨fun q => ⟨c, hm ▸ q⟩, fun q => hm ▸ q.2⟩
    · rw [h2 c]
      exact (decide_eq_false fun q => c q.1).symm
  rw [hm] at HS c1 hn ⊢
  have m0 : (0 : Int) ≤ (m : Int) := by omega
  have m1 : (m : Int) ≤ 8796093022208 := by omega
  have m2 : (m : Int) ≤ (cap : Int) := by omega
  have m3 : (cap : Int) ≤ 9223372036854775807 := by omega
  clear hm
  go_enter Try.func18, Try.ntmps18
  go_wp2_with fail
  go_loopw [3] (fun iv wr => ∃ k : Nat, k ≤ m ∧ iv = .int .i64 (k : Nat) ∧ (∀ s ∈ L.take k, okN s) ∧ Below w.heap.size w wr) (fun iv _ => m - (intOf iv).toNat)
  case atStart => exact ⟨0, by omega, rfl, by simp, brefl w⟩
  case round =>
    obtain ⟨k, hk, rfl, hok, hb⟩ := hrel
    rename World => wr
    have HB := Lib.hid hb
    have HK := Lib.hid hok
    clear hb hok
    by_cases c : k < m
    · have e1 : decide ((k : Int) < (m : Int)) = true := decide_eq_true (by omega)
      have e2 : decide (k < m) = true := decide_eq_true c
      have k1 : (k : Int) < (m : Int) := by omega
      have wk : IntKind.i64.wrap ((k : Int) + 1) = (k : Int) + 1 := wrap_in (by omega) (by omega)
      obtain ⟨x, hx⟩ : ∃ x, L[k]? = some x := ⟨_, List.getElem?_eq_getElem (by rw [HM.out]; exact c)⟩
      have HX := Lib.hid hx
      obtain ⟨b, off, rfl, y0, y1⟩ := (HS.out.below HB.out).at hx
      clear hx
      by_cases ok : okN x
      · have CK := Lib.hid (fun w => Fx.rCheck_okx x.lo x.hi w (okN_iff.1 ok))
        have NK := Lib.hid (take_all HX.out HK.out ok)
        obtain ⟨xl, xh⟩ := x
        simp only at y0 y1 CK
        clear ok
        go_wp2_with fail
        refine (CK.out _).mono ?_
        rintro e w3 ⟨rfl, rfl⟩
        have B3 := Lib.hid (balloc HB.out (.cells #[.int .i64 xl, .int .i64 xh] 25))
        clear y0 y1
        go_wp2_with fail
        exact ⟨⟨k + 1, by omega, by go_num, NK.out, B3.out⟩, by simp [intOf]; omega⟩
      · have CK := Lib.hid (fun w => Fx.rCheck_badx x.lo x.hi w (fun q => ok (okN_iff.2 q)))
        have NO : Hid (false = decide (okL L)) := Lib.hid (HO.out false (fun q => absurd (q x (List.mem_of_getElem? HX.out)) ok) (fun _ => rfl))
        obtain ⟨xl, xh⟩ := x
        simp only at y0 y1 CK
        clear ok
        go_wp2_with fail
        refine (CK.out _).mono ?_
        rintro e w3 ⟨rfl, rfl⟩
        have B3 := Lib.hid (balloc HB.out (.cells #[.int .i64 xl, .int .i64 xh] 25))
        clear y0 y1
        go_wp2_with fail
        go_ret
        exact ⟨by rw [← NO.out]; rfl, B3.out⟩
    · have e1 : decide ((k : Int) < (m : Int)) = false := decide_eq_false (by omega)
      have e2 : decide (k < m) = false := decide_eq_false c
      obtain rfl : k = m := by omega
      have NO : Hid (decide (k ≤ 32) = decide (okL L)) := Lib.hid (HO.out _ (fun _ => rfl) (fun q => by
        refine absurd ?_ q
        have := HK.out
        rwa [List.take_of_length_le (by rw [HM.out]; exact Nat.le_refl _)] at this))
      have N2 : Hid (decide ((k : Int) ≤ 32) = decide (okL L)) := Lib.hid (by rw [← NO.out]; exact decide_eq_decide.2 (by omega))
      go_wp2_with fail
      go_ret
      exact ⟨by first | rw [← N2.out]; rfl | rw [← NO.out]; rfl, HB.out⟩
theorem cnt_succ {L : List Sn} {k : Nat} {x : Sn} (h : L[k]? = some x) (t : Int) : cnt (L.take (k + 1)) t = cnt (L.take k) t + if has t x = true then 1 else 0 := by
  obtain ⟨h1, h2⟩ := List.getElem?_eq_some_iff.1 h
  rw [List.take_succ_eq_append_getElem h1, h2, cnt_app, cnt_one]
set_option maxRecDepth 100000 in
set_option maxHeartbeats 2000000 in
theorem rcount_c {w : World} {v : Value} {L : List Sn} (h : Hs w v L) (hn : L.length ≤ 8796093022208) (t : Int) :
    Calls Try.prog 19 #[v, .int .i64 t] w fun e w' => e = .returned (.int .i64 (cnt L t : Nat)) ∧ Below w.heap.size w w' := by
  have HS := Lib.hid h
  obtain ⟨a, cap, rfl, c1, c2, _⟩ := h
  obtain ⟨m, hm⟩ : ∃ m, L.length = m := ⟨_, rfl⟩
  have HM := Lib.hid hm
  have CE : Hid (cnt (L.take m) t = cnt L t) := Lib.hid (by rw [List.take_of_length_le (by rw [hm]; exact Nat.le_refl _)])
  rw [hm] at HS c1 hn ⊢
  have m0 : (0 : Int) ≤ (m : Int) := by omega
  have m1 : (m : Int) ≤ 8796093022208 := by omega
  have m2 : (m : Int) ≤ (cap : Int) := by omega
  have m3 : (cap : Int) ≤ 9223372036854775807 := by omega
  clear hm
  go_enter Try.func19, Try.ntmps19
  go_wp2_with fail
  go_loopw [5, 6] (fun nv iv wr => ∃ k : Nat, k ≤ m ∧ iv = .int .i64 (k : Nat) ∧ nv = .int .i64 (cnt (L.take k) t : Nat) ∧ Below w.heap.size w wr) (fun _ iv _ => m - (intOf iv).toNat)
  case atStart => exact ⟨0, by omega, rfl, rfl, brefl w⟩
  case round =>
    obtain ⟨k, hk, rfl, rfl, hb⟩ := hrel
    rename World => wr
    have HB := Lib.hid hb
    clear hb
    by_cases c : k < m
    · have e1 : decide ((k : Int) < (m : Int)) = true := decide_eq_true (by omega)
      have e2 : decide (k < m) = true := decide_eq_true c
      have k1 : (k : Int) < (m : Int) := by omega
      have wk : IntKind.i64.wrap ((k : Int) + 1) = (k : Int) + 1 := wrap_in (by omega) (by omega)
      obtain ⟨x, hx⟩ : ∃ x, L[k]? = some x := ⟨_, List.getElem?_eq_getElem (by rw [HM.out]; exact c)⟩
      have cl : cnt (L.take k) t ≤ k := Nat.le_trans (cnt_le _ _) (by rw [List.length_take]; omega)
      have CS := Lib.hid (cnt_succ hx t)
      obtain ⟨b, off, rfl, y0, y1⟩ := (HS.out.below HB.out).at hx
      have HH := Lib.hid (fun w => rHas_c x t w)
      obtain ⟨n, hn2⟩ : ∃ n, cnt (L.take k) t = n := ⟨_, rfl⟩
      rw [hn2] at cl CS ⊢
      have wn : IntKind.i64.wrap ((n : Int) + 1) = (n : Int) + 1 := wrap_in (by omega) (by omega)
      clear hx hn2
      generalize has t x = hv at *
      obtain ⟨xl, xh⟩ := x
      replace HH : Hid (∀ w, Calls Try.prog 26 #[.agg #[.int .i64 xl, .int .i64 xh], .int .i64 t] w fun e w' => e = .returned (.bool hv) ∧ Below w.heap.size w w') := HH
      simp only at y0 y1
      cases hv with
      | true =>
        go_wp2_with fail
        refine (HH.out _).mono ?_
        rintro e w3 ⟨rfl, hb⟩
        have B3 := Lib.hid (bstep HB.out hb)
        clear hb y0 y1
        go_wp2_with fail
        exact ⟨⟨k + 1, by omega, by go_num, by rw [CS.out]; rfl, B3.out⟩, by simp [intOf]; omega⟩
      | false =>
        go_wp2_with fail
        refine (HH.out _).mono ?_
        rintro e w3 ⟨rfl, hb⟩
        have B3 := Lib.hid (bstep HB.out hb)
        clear hb y0 y1
        go_wp2_with fail
        exact ⟨⟨k + 1, by omega, by go_num, by rw [CS.out]; rfl, B3.out⟩, by simp [intOf]; omega⟩
    · have e1 : decide ((k : Int) < (m : Int)) = false := decide_eq_false (by omega)
      have e2 : decide (k < m) = false := decide_eq_false c
      obtain rfl : k = m := by omega
      rw [CE.out]
      go_wp2_with fail
      go_ret
      exact ⟨rfl, HB.out⟩
/-- what Held answers. -/
def heE (L : List Sn) (t : Int) : Ending := .returned (.tuple #[.int .i64 (if okL L ∧ okT t then (cnt L t : Nat) else 0 : Int), .int .i64 (if okL L then (if okT t then 0 else 2) else 3)])
set_option maxRecDepth 100000 in
theorem rHeld_c {w : World} {v : Value} {L : List Sn} (h : Hs w v L) (hn : L.length ≤ 8796093022208) (t : Int) :
    Calls Try.prog 11 #[v, .int .i64 t] w fun e w' => e = heE L t ∧ Below w.heap.size w w' := by
  have CK := Lib.hid (rcheck_c h hn)
  have IS := Lib.hid (rIs_c t)
  have CN := Lib.hid (fun w' (q : Below w.heap.size w w') => rcount_c (h.below q) hn t)
  obtain ⟨a, cap, rfl, _⟩ := h
  generalize L.length = m at *
  by_cases ok : okL L
  · rw [decide_eq_true ok] at CK
    by_cases ot : okT t
    · rw [decide_eq_true ot] at IS
      rw [show heE L t = .returned (.tuple #[.int .i64 (cnt L t : Nat), .int .i64 0]) by unfold heE; rw [if_pos ⟨ok, ot⟩, if_pos ok, if_pos ot]]
      go_enter Try.func11, Try.ntmps11
      go_wp2_with fail
      refine CK.out.mono ?_
      rintro e w1 ⟨rfl, hb⟩
      have B1 := Lib.hid hb
      clear hb
      go_wp2_with fail
      refine (IS.out _).mono ?_
      rintro e w2 ⟨rfl, rfl⟩
      go_wp2_with fail
      refine (CN.out _ B1.out).mono ?_
      rintro e w3 ⟨rfl, hb⟩
      have B3 := Lib.hid (bstep B1.out hb)
      clear hb
      go_wp2_with fail
      go_ret2
      exact ⟨rfl, B3.out⟩
    · rw [decide_eq_false ot] at IS
      rw [show heE L t = .returned (.tuple #[.int .i64 0, .int .i64 2]) by unfold heE; rw [if_neg (fun q => ot q.2), if_pos ok, if_neg ot]]
      go_enter Try.func11, Try.ntmps11
      go_wp2_with fail
      refine CK.out.mono ?_
      rintro e w1 ⟨rfl, hb⟩
      have B1 := Lib.hid hb
      clear hb
      go_wp2_with fail
      refine (IS.out _).mono ?_
      rintro e w2 ⟨rfl, rfl⟩
      go_wp2_with fail
      go_ret2
      exact ⟨rfl, B1.out⟩
  · rw [decide_eq_false ok] at CK
    rw [show heE L t = .returned (.tuple #[.int .i64 0, .int .i64 3]) by unfold heE; rw [if_neg (fun q => ok q.1), if_neg ok]]
    go_enter Try.func11, Try.ntmps11
    go_wp2_with fail
    refine CK.out.mono ?_
    rintro e w1 ⟨rfl, hb⟩
    have B1 := Lib.hid hb
    clear hb
    go_wp2_with fail
    go_ret2
    exact ⟨rfl, B1.out⟩
end Go.Proofs.Ytppflfodkhhfhaa.Hu
