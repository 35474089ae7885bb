/-
  What the votes' laws lean on: who is a truechimer, who survives, where the offset lies; sundiallaw16.among.
  Conditions: none.
-/
import Derived.Test.YtkmbeogmgehnfaaVoH
namespace Go.Proofs.Ytkmbeogmgehnfaa.Vo
open Go.RowKit Go.ChangeShapes Go.WideShapes Go.ChangeAt Go.Joins Fl Hu
set_option linter.unusedVariables false
set_option linter.unusedSimpArgs false

theorem inA_cases (L : List Cd) : (¬ okL L ∧ inA L = (((0, 0), []), 3)) ∨ (okL L ∧ inA L = (((0, 0), []), 5)) ∨ ∃ m M, okL L ∧ IsI L m M ∧ inA L = (((m, M), tru L m M L.length), 0) := by
  by_cases ok : okL L
  · cases h : inV L with
    | none => exact .inr (.inl ⟨ok, by unfold inA; rw [if_pos ok, h]⟩)
    | some p =>
      obtain ⟨m, M⟩ := p
      exact .inr (.inr ⟨m, M, ok, inV_is h, inA_some ok (inV_is h)⟩)
  · exact .inl ⟨ok, inA_shape ok⟩
theorem IsI.le {L : List Cd} {m M : Int} (h : IsI L m M) : m ≤ M := by
  obtain ⟨a, _, h2, _⟩ := h
  exact h2.1.le
theorem tru_outs {L : List Cd} (ok : okL L) (m M : Int) : ∀ k, k ≤ L.length → k ≤ (tru L m M k).length + outs (L.take k) m M
  | 0, _ => by omega
  | k + 1, hk => by
    have ih := tru_outs ok m M k (by omega)
    have hx := cd_at (L := L) (i := k) (by omega)
    have okc := cd_ok ok (i := k) (by omega)
    have o := outs_more hx m M
    by_cases q : isOut m M (cd L k) = true
    · rw [if_pos q] at o
      cases z : mt m M (cd L k) with
      | true => rw [tru_yes hx z, List.length_append, List.length_singleton]; omega
      | false => rw [tru_no hx z]; omega
    · have z : mt m M (cd L k) = true := by
        unfold isOut at q
        unfold mt
        unfold okC at okc
        simp at q
        simp
        omega
      rw [if_neg q] at o
      rw [tru_yes hx z, List.length_append, List.length_singleton]
      omega
theorem tru_most {L : List Cd} (ok : okL L) {m M : Int} (h : IsI L m M) : L.length < 2 * (tru L m M L.length).length := by
  obtain ⟨a, h1, h2, _⟩ := h
  have q := tru_outs ok m M L.length (Nat.le_refl _)
  rw [List.take_length] at q
  have := h2.2
  omega
theorem tru_ok {L : List Cd} (ok : okL L) {m M : Int} (h : IsI L m M) : chE L (ints (tru L m M L.length)) = 0 ∧ tru L m M L.length ≠ [] := by
  refine ⟨chE_ints ok (fun n hn => tru_lt hn) (tru_nodup _ _ _ _), fun e => ?_⟩
  have := tru_most ok h
  rw [e] at this
  simp at this
theorem ints_ne {N : List Nat} (h : N ≠ []) : ints N ≠ [] := fun q => h (by cases N with | nil => rfl | cons x r => cases q)
theorem clE_tru {L : List Cd} (ok : okL L) {N : List Nat} (hN : ∀ n ∈ N, n < L.length) (nd : N.Nodup) (hne : N ≠ []) : clE L (ints N) = 0 := by
  unfold clE
  rw [if_pos (chE_ints ok hN nd), if_neg (ints_ne hne)]
/-- what Combine answers of survivors. -/
theorem co_sure {L : List Cd} (ok : okL L) {N : List Nat} (hN : ∀ n ∈ N, n < L.length) (nd : N.Nodup) (hne : N ≠ []) :
    ∃ t j, coE L (ints N) = .returned (.tuple #[.int .i64 t, .int .i64 j, .int .i64 0]) ∧ 0 ≤ j ∧ ∀ lo hi, (∀ n ∈ N, lo ≤ (cd L n).off ∧ (cd L n).off ≤ hi) → lo ≤ t ∧ t ≤ hi := by
  have np : 0 < N.length := List.length_pos_iff.2 hne
  obtain ⟨x, hx⟩ : ∃ x, (cd L (N.getD 0 0)).off = x := ⟨_, rfl⟩
  have mem0 : N.getD 0 0 ∈ N := by
    rw [List.getD_eq_getElem?_getD, List.getElem?_eq_getElem np]
    exact List.getElem_mem _
  have okx := (cd_ok ok (hN _ mem0)).1
  have b := co_bd ok okx hN
  have ap : 0 < cAll L N := by omega
  refine ⟨coT L N, coJ L N, coE_ok (chE_ints ok hN nd) hne, ?_, fun lo hi h => co_mean ap (fun n hn => by have := wt_in (cd_ok ok (hN n hn)); omega) h⟩
  unfold coJ
  exact Int.ediv_nonneg (by omega) (by omega)
set_option maxRecDepth 100000 in
set_option maxHeartbeats 2000000 in
theorem among_c {w : World} {v av : Value} {L : List Cd} {N : List Nat} (h : Cs w v L) (hs : Is w av (ints N)) (hn : L.length ≤ 8796093022208) (hn2 : N.length ≤ 35184372088832) (hN : ∀ n ∈ N, n < L.length) (hne : N ≠ []) (t : Int)
    (ht : ∀ lo hi, (∀ n ∈ N, lo ≤ (cd L n).off ∧ (cd L n).off ≤ hi) → lo ≤ t ∧ t ≤ hi) :
    Calls Try.prog 15 #[v, av, .int .i64 t] w fun e w' => e = .returned (.bool true) ∧ Below w.heap.size w w' := by
  have HS := Lib.hid h
  have HZ := Lib.hid hs
  have HT := Lib.hid ht
  have LT := Lib.hid hN
  have np : 0 < N.length := List.length_pos_iff.2 hne
  obtain ⟨q0, hq0⟩ : ∃ q, N[0]? = some q := ⟨_, List.getElem?_eq_getElem np⟩
  have q0l := hN q0 (List.mem_of_getElem? hq0)
  have A0 := Lib.hid (cd_at q0l)
  obtain ⟨a, cap, rfl, c1, c2, _⟩ := h
  obtain ⟨sa, sc, rfl, p1, p2, _⟩ := hs
  obtain ⟨m, hm⟩ : ∃ m, L.length = m := ⟨_, rfl⟩
  obtain ⟨n, hsn⟩ : ∃ n, N.length = n := ⟨_, rfl⟩
  have HM := Lib.hid hm
  have HN := Lib.hid hsn
  obtain ⟨b0, o0, ea, z0⟩ := HZ.out.at (ints_at hq0)
  subst ea
  obtain ⟨b1, o1, ea, z1, _⟩ := HS.out.at A0.out
  subst ea
  rw [ints_len, hsn] at HZ p1 ⊢
  rw [hm] at HS c1 hn q0l ⊢
  rw [hsn] at hn2 np
  have m0 : (0 : Int) ≤ (m : Int) := by omega
  have m2 : (m : Int) ≤ (cap : Int) := by omega
  have m3 : (cap : Int) ≤ 9223372036854775807 := by omega
  have n0 : (0 : Int) < (n : Int) := by omega
  have n1 : (n : Int) ≤ 35184372088832 := by omega
  have n2 : (n : Int) ≤ (sc : Int) := by omega
  have n3 : (sc : Int) ≤ 9223372036854775807 := by omega
  have q0i : (q0 : Int) < (m : Int) := by omega
  have q00 : (0 : Int) ≤ (q0 : Int) := by omega
  have z0' : w.cell? ⟨b0, o0, none⟩ = some (.int .i64 (q0 : Nat)) := by simpa using z0
  clear hne ht hN hm hsn z0
  go_enter Try.func15, Try.ntmps15
  go_wp2_with fail
  clear z0' z1
  go_loopw [7, 8, 9] (fun lv hv iv wr => ∃ (k : Nat) (lo hi : Int), k ≤ n ∧ iv = .int .i64 (k : Nat) ∧ lv = .int .i64 lo ∧ hv = .int .i64 hi ∧ (∀ x ∈ N.take k, lo ≤ (cd L x).off ∧ (cd L x).off ≤ hi) ∧ Below w.heap.size w wr) (fun _ _ iv _ => n - (intOf iv).toNat)
  case atStart => exact ⟨0, _, _, by omega, rfl, rfl, rfl, by simp, brefl w⟩
  case round =>
    obtain ⟨k, lo, hi, hk, rfl, rfl, rfl, hin, hb⟩ := hrel
    rename World => wr
    have BR := Lib.hid hb
    have IN := Lib.hid hin
    clear hb hin
    by_cases c : k < n
    · have e1 : decide ((k : Int) < (n : Int)) = true := decide_eq_true (by omega)
      have e2 : decide (k < n) = true := decide_eq_true c
      have k1 : (k : Int) < (n : Int) := by omega
      have k0 : (0 : Int) ≤ (k : Int) := by omega
      have wk : IntKind.i64.wrap ((k : Int) + 1) = (k : Int) + 1 := wrap_in (by omega) (by omega)
      obtain ⟨i, hi'⟩ : ∃ i, N[k]? = some i := ⟨_, List.getElem?_eq_getElem (by rw [HN.out]; exact c)⟩
      have il := LT.out i (List.mem_of_getElem? hi')
      have i1 : (i : Int) < (m : Int) := by rw [← HM.out]; omega
      have i0 : (0 : Int) ≤ (i : Int) := by omega
      obtain ⟨_, _, ea, z0⟩ := (HZ.out.below BR.out).at (ints_at hi')
      cases ea
      obtain ⟨_, _, ea, z1, _⟩ := (HS.out.below BR.out).at (cd_at il)
      cases ea
      have AM := Lib.hid (fun lo2 hi2 (P : lo2 ≤ lo ∧ hi ≤ hi2 ∧ lo2 ≤ (cd L i).off ∧ (cd L i).off ≤ hi2) => all_more (P := fun x => lo2 ≤ (cd L x).off ∧ (cd L x).off ≤ hi2) hi' (fun x hx => by have := IN.out x hx; omega) ⟨P.2.2.1, P.2.2.2⟩)
      generalize (cd L i).off = xo at *
      clear hi' il
      rcases Int.lt_or_le xo lo with cm | cm
      · have dm := decide_eq_true cm
        rcases Int.lt_or_le hi xo with cx | cx
        · have dx := decide_eq_true cx
          have AZ := Lib.hid (AM.out xo xo ⟨by omega, by omega, by omega, by omega⟩)
          go_wp2_with fail
          exact ⟨⟨k + 1, _, _, by omega, by go_num, rfl, rfl, AZ.out, BR.out⟩, by simp [intOf]; omega⟩
        · have dx : decide (hi < xo) = false := decide_eq_false (by omega)
          have AZ := Lib.hid (AM.out xo hi ⟨by omega, by omega, by omega, by omega⟩)
          go_wp2_with fail
          exact ⟨⟨k + 1, _, _, by omega, by go_num, rfl, rfl, AZ.out, BR.out⟩, by simp [intOf]; omega⟩
      · have dm : decide (xo < lo) = false := decide_eq_false (by omega)
        rcases Int.lt_or_le hi xo with cx | cx
        · have dx := decide_eq_true cx
          have AZ := Lib.hid (AM.out lo xo ⟨by omega, by omega, by omega, by omega⟩)
          go_wp2_with fail
          exact ⟨⟨k + 1, _, _, by omega, by go_num, rfl, rfl, AZ.out, BR.out⟩, by simp [intOf]; omega⟩
        · have dx : decide (hi < xo) = false := decide_eq_false (by omega)
          have AZ := Lib.hid (AM.out lo hi ⟨by omega, by omega, by omega, by omega⟩)
          go_wp2_with fail
          exact ⟨⟨k + 1, _, _, by omega, by go_num, rfl, rfl, AZ.out, BR.out⟩, by simp [intOf]; omega⟩
    · have e1 : decide ((k : Int) < (n : Int)) = false := decide_eq_false (by omega)
      have e2 : decide (k < n) = false := decide_eq_false c
      obtain rfl : k = n := by omega
      obtain ⟨t1, t2⟩ := HT.out lo hi (all_done HN.out IN.out)
      have d1 := decide_eq_true t1
      have d2 := decide_eq_true t2
      go_wp2_with fail
      go_ret
      exact ⟨rfl, BR.out⟩
end Go.Proofs.Ytkmbeogmgehnfaa.Vo
