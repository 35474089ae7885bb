/-
  A remark behind a line.
-/
import Derived.Test.YthlmjfjkjjoimaaDoorWpS
namespace Go.Proofs.YthlmjfjkjjoimaaDoor.Wd
open Go.ChangeShapes Go.WideShapes Go.ChangeAt Go.RowKit Go.Joins By
set_option linter.unusedVariables false
set_option linter.unusedSimpArgs false

theorem run_app : ∀ (l m : List (ByteArray × Bool)) (k : Nat) (S : CS), run (l ++ m) k S = match run l k S with
    | .inl j => .inl j
    | .inr S' => run m (k + l.length) S'
  | [], m, k, S => by simp [run]
  | c :: l, m, k, S => by
    rw [List.cons_append, run, run]
    by_cases h : c.2 = true
    · rw [if_pos h, if_pos h]
    · rw [if_neg h, if_neg h]
      cases hs : stp c.1 k S with
      | none => rfl
      | some S' =>
        simp only
        rw [run_app l m (k + 1) S', List.length_cons, show k + 1 + l.length = k + (l.length + 1) from by omega]
theorem run_rem5 : ∀ (l : List (ByteArray × Bool)) (k : Nat) (S : CS), 5 ≤ S.wh → (okc l = true → run l k S = .inr S) ∧ (okc l = false → ∃ j, k ≤ j ∧ run l k S = .inl j)
  | [], k, S, _ => ⟨fun _ => rfl, fun h => by simp [okc] at h⟩
  | c :: l, k, S, h => by
    obtain ⟨a, b⟩ := run_rem5 l (k + 1) S h
    rw [run, stp_5 h]
    cases hc : c.2 with
    | true =>
      rw [if_pos rfl]
      exact ⟨fun h' => by simp [okc, hc] at h', fun _ => ⟨k, Nat.le_refl _, rfl⟩⟩
    | false =>
      rw [if_neg Bool.false_ne_true]
      have e : okc (c :: l) = okc l := by simp [okc, hc]
      rw [e]
      exact ⟨a, fun h' => by obtain ⟨j, hj, hr⟩ := b h'; exact ⟨j, by omega, hr⟩⟩
theorem run_open : ∀ (l : List (ByteArray × Bool)) (k : Nat) (S : CS), (S.wh = 2 ∨ S.wh = 3) → (∀ c, c ∈ l → c.1.toList ≠ [34]) → (∃ j, run l k S = .inl j) ∨ ∃ S', run l k S = .inr S' ∧ (S'.wh = 2 ∨ S'.wh = 3)
  | [], k, S, h, _ => .inr ⟨S, rfl, h⟩
  | c :: l, k, S, h, hn => by
    rw [run]
    by_cases hc : c.2 = true
    · rw [if_pos hc]
      exact .inl ⟨k, rfl⟩
    · rw [if_neg hc]
      have h34 := hn c (List.mem_cons_self ..)
      have hl : ∀ d, d ∈ l → d.1.toList ≠ [34] := fun d hd => hn d (List.mem_cons_of_mem _ hd)
      rcases h with h | h
      · rw [stp_2 h]
        simp only [CS.quot]
        rw [if_neg h34]
        by_cases h92 : c.1.toList = [92]
        · rw [if_pos h92]
          exact run_open l (k + 1) (S.to 3) (.inr rfl) hl
        · rw [if_neg h92]
          exact run_open l (k + 1) (S.add c.1) (.inl h) hl
      · rw [stp_3 h]
        exact run_open l (k + 1) ((S.add c.1).to 2) (.inl rfl) hl
def spc : ByteArray := ⟨#[32]⟩
def hsh : ByteArray := ⟨#[35]⟩
def spH : ByteArray := ⟨#[32, 35]⟩
theorem t32 : spc.toList = [32] := by rw [ByteArray.toList_eq]; rfl
theorem t35 : hsh.toList = [35] := by rw [ByteArray.toList_eq]; rfl
set_option maxRecDepth 100000 in
theorem chars_spH : chars spH = [(spc, false), (hsh, false)] := by kernel_rfl
/-- a blank and a # behind what is shut. -/
theorem run_sh {S : CS} (h : S.shut = true) (k : Nat) : ∃ S', run [(spc, false), (hsh, false)] k S = .inr S' ∧ 5 ≤ S'.wh ∧ S'.ws = S.last.ws := by
  have b1 : bl1 spc = true := by rw [bl1, t32]; decide
  have b2 : bl1 hsh = false := by rw [bl1, t35]; decide
  have n1 : ¬ spc.toList = [34] := by rw [t32]; decide
  have n2 : hsh.toList = [35] := t35
  have sh2 : S.wh ≠ 2 ∧ S.wh ≠ 3 := by
    simp only [CS.shut, Bool.and_eq_true, decide_eq_true_eq] at h
    exact h
  have two : ∀ S0 : CS, S0.wh = 0 → ∀ k, run [(hsh, false)] k S0 = .inr ((S0.beg k false).to 5) := fun S0 h0 k => by
    rw [run, if_neg Bool.false_ne_true, stp_0 h0]
    simp only [CS.first]
    rw [if_neg (by rw [b2]; decide), if_pos n2]
    rfl
  rw [run, if_neg Bool.false_ne_true]
  by_cases h0 : S.wh = 0
  · rw [stp_0 h0]
    simp only [CS.first]
    rw [if_pos b1]
    exact ⟨_, two S h0 _, Nat.le_refl _, by rw [CS.last, if_neg (by omega)]; rfl⟩
  · by_cases h1 : S.wh = 1
    · rw [stp_1 h1, if_neg n1]
      simp only [CS.plain]
      rw [if_pos b1]
      exact ⟨_, two (S.fin.to 0) rfl _, Nat.le_refl _, by rw [CS.last, if_pos h1]; rfl⟩
    · by_cases h4 : S.wh = 4
      · rw [stp_4 h4, if_pos b1]
        exact ⟨_, two (S.to 0) rfl _, Nat.le_refl _, by rw [CS.last, if_neg (by omega)]; rfl⟩
      · have h5 : 5 ≤ S.wh := by omega
        rw [stp_5 h5]
        simp only
        rw [run, if_neg Bool.false_ne_true, stp_5 h5]
        exact ⟨S, rfl, h5, by rw [CS.last, if_neg h1]⟩
/-- does a byte stand in a text? -/
def has (c : Nat) (s : ByteArray) : Bool := (List.range s.size).any fun i => decide (gn s i = c)
theorem has_no {c : Nat} {s : ByteArray} (h : has c s = false) : ∀ i, i < s.size → gn s i ≠ c := by
  intro i hi e
  have : has c s = true := by
    simp only [has, List.any_eq_true, List.mem_range, decide_eq_true_eq]
    exact ⟨i, hi, e⟩
  rw [this] at h; cases h
theorem has_yes {c i : Nat} {s : ByteArray} (hi : i < s.size) (h : gn s i = c) : has c s = true := by
  simp only [has, List.any_eq_true, List.mem_range, decide_eq_true_eq]
  exact ⟨i, hi, h⟩
theorem no_quote {s : ByteArray} (h : has 34 s = false) : ∀ f i, ∀ c, c ∈ chL s f i → c.1.toList ≠ [34]
  | 0, _, c, hc => by simp [chL] at hc
  | f + 1, i, c, hc => by
    by_cases hi : i < s.size
    · rw [chL_at s f i hi] at hc
      rcases List.mem_cons.1 hc with e | e
      · subst e
        intro e2
        rw [ByteArray.toList_eq, ct_data, tl_eq] at e2
        have wp := cw_pos s i
        have e3 := congrArg (fun l => l.getD 0 0) e2
        simp only [List.getD_eq_getElem?_getD] at e3
        rw [List.getElem?_take_of_lt (by omega), List.getElem?_drop, Nat.add_zero] at e3
        refine has_no h i hi ?_
        rw [gn, List.getD_eq_getElem?_getD, e3]
        rfl
      · exact no_quote h f (i + cw s i) c e
    · rw [chL_end s _ i hi] at hc
      cases hc
theorem chars_cut (X M : ByteArray) : chars (X ++ spH ++ M) = chars X ++ ([(spc, false), (hsh, false)] ++ chars M) := by
  have e1 : X ++ spH ++ M = X ++ (spH ++ M) := ba_ext (by simp)
  have g0 : (spH ++ M).get! 0 = 32 := by rw [get_left (show 0 < spH.size from by decide)]; rfl
  rw [e1, chars_ascii (.inr (by rw [g0]; decide)), chars_app (a := spH) (b := M) (fun i hi => .inr (by
    have hi : i < 2 := hi
    have : i = 0 ∨ i = 1 := by omega
    rcases this with rfl | rfl
    · decide
    · decide)), chars_spH]
/-- what a remark behind a line makes. -/
theorem cut_cases (X M : ByteArray) : (∃ c d, spR X = .inl c ∧ spR (X ++ spH ++ M) = .inl d) ∨ (∃ c l, spR X = .inl c ∧ spR (X ++ spH ++ M) = .inr l ∧ has 34 M = true) ∨
    (∃ ws, ∃ j : Nat, spR X = .inr ws ∧ okc (chars M) = false ∧ spR (X ++ spH ++ M) = .inl (j : Int) ∧ (chars X).length + 2 ≤ j) ∨ (∃ ws, spR X = .inr ws ∧ okc (chars M) = true ∧ spR (X ++ spH ++ M) = .inr ws) := by
  have RA := run_app (chars X) ([(spc, false), (hsh, false)] ++ chars M) 0 cs0
  rw [← chars_cut] at RA
  unfold spR
  rw [RA]
  cases hr : run (chars X) 0 cs0 with
  | inl k => exact .inl ⟨k, k, rfl, rfl⟩
  | inr S =>
    simp only
    cases hs : S.shut with
    | false =>
      have h23 : S.wh = 2 ∨ S.wh = 3 := by
        simp only [CS.shut, Bool.and_eq_false_iff, decide_eq_false_iff_not] at hs
        omega
      cases hh : has 34 M with
      | true =>
        cases hR : (match run ([(spc, false), (hsh, false)] ++ chars M) (0 + (chars X).length) S with
          | Sum.inl k => (Sum.inl (k : Int) : Int ⊕ List W3)
          | Sum.inr S => if S.shut = true then Sum.inr S.last.ws else Sum.inl S.wd.c) with
        | inl d => exact .inl ⟨S.wd.c, d, by simp, hR⟩
        | inr l => exact .inr (.inl ⟨S.wd.c, l, by simp, hR, rfl⟩)
      | false =>
        have nq : ∀ c, c ∈ ([(spc, false), (hsh, false)] ++ chars M) → c.1.toList ≠ [34] := fun c hc => by
          rcases List.mem_append.1 hc with e | e
          · simp only [List.mem_cons, List.not_mem_nil, or_false] at e
            rcases e with rfl | rfl
            · show spc.toList ≠ [34]
              rw [t32]; decide
            · show hsh.toList ≠ [34]
              rw [t35]; decide
          · exact no_quote hh _ _ c e
        rcases run_open ([(spc, false), (hsh, false)] ++ chars M) (0 + (chars X).length) S h23 nq with ⟨j, e⟩ | ⟨S', e, h'⟩
        · rw [e]
          exact .inl ⟨S.wd.c, j, by simp, rfl⟩
        · rw [e]
          have : S'.shut = false := by
            simp only [CS.shut, Bool.and_eq_false_iff, decide_eq_false_iff_not]
            omega
          exact .inl ⟨S.wd.c, S'.wd.c, by simp, by simp [this]⟩
    | true =>
      obtain ⟨S2, e2, h5, w2⟩ := run_sh hs (0 + (chars X).length)
      have RB := run_app [(spc, false), (hsh, false)] (chars M) (0 + (chars X).length) S
      rw [e2] at RB
      simp only at RB
      obtain ⟨a, b⟩ := run_rem5 (chars M) (0 + (chars X).length + [(spc, false), (hsh, false)].length) S2 h5
      cases ho : okc (chars M) with
      | true =>
        rw [a ho] at RB
        rw [RB]
        refine .inr (.inr (.inr ⟨S.last.ws, by simp, rfl, ?_⟩))
        have s2 : S2.shut = true := by
          simp only [CS.shut, Bool.and_eq_true, decide_eq_true_eq]
          omega
        simp only [s2, if_true]
        rw [CS.last, if_neg (by omega), w2]
      | false =>
        obtain ⟨j, hj, e⟩ := b ho
        rw [e] at RB
        rw [RB]
        exact .inr (.inr (.inl ⟨S.last.ws, j, by simp, rfl, rfl, by simp at hj; omega⟩))

set_option maxRecDepth 100000 in
set_option maxHeartbeats 2000000 in
theorem closes_c (s : ByteArray) (w : World) (hs : s.size ≤ 9223372036854775807) :
    Calls Tryd.prog 13 #[.string s] w fun e w' => e = .returned (.bool (has 34 s)) ∧ w' = w := by
  obtain ⟨r, HR⟩ : ∃ r, Hid (r = has 34 s) := ⟨_, Lib.hid rfl⟩
  rw [← HR.out]
  go_enter Tryd.func13, Tryd.ntmps13
  go_wp2_with fail
  go_loopw [3] (fun i wr => ∃ k : Nat, k ≤ s.size ∧ i = .int .i64 k ∧ (∀ j, j < k → gn s j ≠ 34) ∧ wr = w) (fun i _ => s.size - (intOf i).toNat)
  case atStart => exact ⟨0, Nat.zero_le _, rfl, fun j hj => absurd hj (Nat.not_lt_zero _), rfl⟩
  case round =>
    obtain ⟨k, hk, rfl, hno, rfl⟩ := hrel
    have NO := Lib.hid hno
    clear hno
    by_cases c : k < s.size
    · have e0 : decide ((k : Int) < (s.size : Int)) = true := by rw [decide_eq_true_iff]; omega
      have ga := gn_at s k c
      by_cases h : gn s k = 34
      · have RT : Hid (r = true) := Lib.hid (by rw [HR.out, has_yes c h])
        rw [h] at ga
        clear h
        go_wp2_with fail
        go_ret
        exact ⟨by rw [RT.out]; rfl, rfl⟩
      · have e1 : ((gn s k : Int) == 34) = false := by rw [beq_eq_false_iff_ne]; omega
        have NX : Hid (∀ j, j < k + 1 → gn s j ≠ 34) := Lib.hid (fun j hj => by
          by_cases e : j = k
          · subst e; exact h
          · exact NO.out j (by omega))
        clear h
        generalize gn s k = x at *
        go_wp2_with fail
        go_roundw
        case rel => exact ⟨k + 1, by omega, by go_num, NX.out, trivial⟩
        case measure => simp [intOf]; omega
    · have e0 : decide ((k : Int) < (s.size : Int)) = false := by rw [decide_eq_false_iff_not]; omega
      have RF : Hid (r = false) := Lib.hid (by
        rw [HR.out]
        cases hh : has 34 s with
        | false => rfl
        | true =>
          simp only [has, List.any_eq_true, List.mem_range, decide_eq_true_eq] at hh
          obtain ⟨i, hi, e⟩ := hh
          exact absurd e (NO.out i (by omega)))
      go_wp2_with fail
      go_ret
      exact ⟨by rw [RF.out]; rfl, rfl⟩
end Go.Proofs.YthlmjfjkjjoimaaDoor.Wd
