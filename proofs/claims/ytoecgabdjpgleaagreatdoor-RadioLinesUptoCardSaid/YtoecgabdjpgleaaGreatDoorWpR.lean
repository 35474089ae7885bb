/-
  The program's words are the document's.
-/
import Derived.Test.YtoecgabdjpgleaaGreatDoorWe
import Derived.Test.YtoecgabdjpgleaaGreatDoorWdH
namespace Go.Proofs.YtoecgabdjpgleaaGreatDoor.Wd
open Go.ChangeShapes Go.WideShapes Go.ChangeAt Go.RowKit Go.Joins By
set_option linter.unusedVariables false
set_option linter.unusedSimpArgs false

/-- as run, whatever is wrong. -/
def run0 : List (ByteArray × Bool) → Nat → CS → Nat ⊕ CS
  | [], _, S => .inr S
  | c :: l, k, S => match stp c.1 k S with
    | none => .inl k
    | some S' => run0 l (k + 1) S'
def cmb (m n : Nat) : Nat ⊕ CS → Nat ⊕ CS
  | .inl j => .inl (min j m)
  | .inr S => if m < n then .inl m else .inr S
theorem run_run0 : ∀ (l : List (ByteArray × Bool)) (k : Nat) (S : CS), run l k S = cmb (fw l k) (k + l.length) (run0 l k S) ∧ (∀ j, run0 l k S = .inl j → k ≤ j ∧ j < k + l.length) ∧ k ≤ fw l k
  | [], k, S => by
    refine ⟨?_, fun j h => by simp [run0] at h, Nat.le_refl _⟩
    simp [run, run0, cmb, fw]
  | c :: l, k, S => by
    rw [run, run0, fw]
    cases hc : c.2 with
    | true =>
      rw [if_pos rfl, if_pos rfl]
      cases hs : stp c.1 k S with
      | none =>
        refine ⟨?_, fun j h => ?_, Nat.le_refl _⟩
        · simp only [cmb, Nat.min_self]
        · simp only [Sum.inl.injEq] at h
          subst h
          simp
      | some S' =>
        obtain ⟨h1, h2, h3⟩ := run_run0 l (k + 1) S'
        refine ⟨?_, fun j h => ?_, Nat.le_refl _⟩
        · simp only
          cases hr : run0 l (k + 1) S' with
          | inl j =>
            have := h2 j hr
            simp only [cmb]
            rw [Nat.min_eq_right (by omega)]
          | inr S2 =>
            simp only [cmb, List.length_cons]
            rw [if_pos (by omega)]
        · have := h2 j h
          rw [List.length_cons]
          omega
    | false =>
      rw [if_neg Bool.false_ne_true, if_neg Bool.false_ne_true]
      obtain ⟨_, _, h3'⟩ := run_run0 l (k + 1) S
      cases hs : stp c.1 k S with
      | none =>
        refine ⟨?_, fun j h => ?_, by omega⟩
        · simp only [cmb]
          rw [Nat.min_eq_left (by omega)]
        · simp only [Sum.inl.injEq] at h
          subst h
          simp
      | some S' =>
        obtain ⟨h1, h2, h3⟩ := run_run0 l (k + 1) S'
        refine ⟨?_, fun j h => ?_, by omega⟩
        · simp only
          rw [h1, List.length_cons, show k + (l.length + 1) = k + 1 + l.length from by omega]
        · have := h2 j h
          rw [List.length_cons]
          omega

theorem run0_rem : ∀ (l : List (ByteArray × Bool)) (k : Nat) (S : CS), S.wh = 5 → run0 l k S = .inr S
  | [], _, _, _ => rfl
  | c :: l, k, S, h => by
    rw [run0, stp_5 (by omega)]
    exact run0_rem l (k + 1) S h
theorem bl_34 {t : ByteArray} (h : t.toList = [34]) : bl1 t = false := by rw [bl1, h]; decide
theorem bl_35 {t : ByteArray} (h : t.toList = [35]) : bl1 t = false := by rw [bl1, h]; decide
theorem dropL (L : List (ByteArray × Bool)) (i : Nat) (h : i < L.length) : L.drop i = (tx L i, (L.getD i (⟨#[]⟩, false)).2) :: L.drop (i + 1) := by
  rw [List.drop_eq_getElem_cons h]
  unfold tx
  rw [List.getD_eq_getElem?_getD, List.getElem?_eq_getElem h]
  rfl
theorem dropE (L : List (ByteArray × Bool)) (i : Nat) (h : ¬ i < L.length) : L.drop i = [] := List.drop_eq_nil_of_le (by omega)

theorem run0_q {L : List (ByteArray × Bool)} : ∀ (f i : Nat) (S : CS), L.length ≤ i + f → S.wh = 2 →
    (qt L f i S.tx = none → ∃ S', run0 (L.drop i) i S = .inr S' ∧ S'.shut = false ∧ S'.wd.c = S.wd.c) ∧
    (∀ t j, qt L f i S.tx = some (t, j) → j ≤ L.length ∧ i < j ∧ run0 (L.drop i) i S = run0 (L.drop j) j ⟨4, S.ws ++ [⟨t, S.wd.c, S.wd.q⟩], ⟨t, S.wd.c, S.wd.q⟩, emp⟩)
  | 0, i, S, hf, h2 => by
    have hi : ¬ i < L.length := by omega
    rw [dropE L i hi]
    refine ⟨fun _ => ⟨S, rfl, by rw [CS.shut, h2]; decide, rfl⟩, fun t j h => by simp [qt] at h⟩
  | f + 1, i, S, hf, h2 => by
    by_cases hi : i < L.length
    · rw [qt, if_pos hi, dropL L i hi]
      simp only [run0]
      rw [stp_2 h2]
      simp only [CS.quot]
      by_cases e1 : (tx L i).toList = [34]
      · rw [if_pos e1, if_neg (by rw [e1]; decide), if_pos e1]
        refine ⟨fun h => (by cases h), fun t j h => ?_⟩
        simp only [Option.some.injEq, Prod.mk.injEq] at h
        obtain ⟨rfl, rfl⟩ := h
        exact ⟨by omega, by omega, rfl⟩
      · rw [if_neg e1]
        by_cases e2 : (tx L i).toList = [92]
        · rw [if_pos e2, if_pos e2]
          by_cases e3 : i + 1 = L.length
          · rw [if_pos e3, dropE L (i + 1) (by omega)]
            refine ⟨fun _ => ⟨S.to 3, rfl, by rw [CS.shut]; show (decide ((3 : Nat) ≠ 2) && decide ((3 : Nat) ≠ 3)) = false; decide, rfl⟩, fun t j h => (by cases h)⟩
          · rw [if_neg e3, dropL L (i + 1) (by omega)]
            simp only [run0]
            rw [stp_3 (show (S.to 3).wh = 3 from rfl)]
            obtain ⟨a, b⟩ := run0_q (L := L) f (i + 2) (((S.to 3).add (tx L (i + 1))).to 2) (by omega) rfl
            exact ⟨a, fun t j h => by obtain ⟨x, y, z⟩ := b t j h; exact ⟨x, by omega, z⟩⟩
        · rw [if_neg e2, if_neg e2, if_neg e1]
          obtain ⟨a, b⟩ := run0_q (L := L) f (i + 1) (S.add (tx L i)) (by omega) h2
          exact ⟨a, fun t j h => by obtain ⟨x, y, z⟩ := b t j h; exact ⟨x, by omega, z⟩⟩
    · rw [qt, if_neg hi, dropE L i hi]
      exact ⟨fun _ => ⟨S, rfl, by rw [CS.shut, h2]; decide, rfl⟩, fun t j h => by cases h⟩

theorem run0_b {L : List (ByteArray × Bool)} : ∀ (g i : Nat) (S : CS), L.length ≤ i + g → i ≤ L.length → S.wh = 1 →
    ((bare L g i S.tx).2.2 < 0 → i ≤ (bare L g i S.tx).2.1 ∧ (bare L g i S.tx).2.1 ≤ L.length ∧ ((bare L g i S.tx).2.1 < L.length → bl1 (tx L (bare L g i S.tx).2.1) = true) ∧
      run0 (L.drop i) i S = run0 (L.drop (bare L g i S.tx).2.1) (bare L g i S.tx).2.1 ⟨1, S.ws, S.wd, (bare L g i S.tx).1⟩) ∧
    (¬ (bare L g i S.tx).2.2 < 0 → ∃ j : Nat, (bare L g i S.tx).2.2 = (j : Int) ∧ run0 (L.drop i) i S = .inl j)
  | 0, i, S, hf, hi0, h1 => by
    have hi : ¬ i < L.length := by omega
    obtain ⟨wh, ws, wd, s⟩ := S
    obtain rfl : wh = 1 := h1
    simp only [bare]
    refine ⟨fun _ => ⟨Nat.le_refl _, hi0, fun h => absurd h hi, by first | rfl | trivial⟩, fun h => absurd (show (-1 : Int) < 0 by decide) h⟩
  | g + 1, i, S, hf, hi0, h1 => by
    obtain ⟨wh, ws, wd, s⟩ := S
    obtain rfl : wh = 1 := h1
    by_cases hi : i < L.length
    · simp only [bare]
      rw [if_pos hi]
      by_cases e1 : bl1 (tx L i) = true
      · rw [if_pos e1]
        refine ⟨fun _ => ⟨Nat.le_refl _, hi0, fun _ => e1, rfl⟩, fun h => absurd (show (-1 : Int) < 0 by decide) h⟩
      · rw [if_neg e1]
        by_cases e2 : (tx L i).toList = [34]
        · rw [if_pos e2]
          refine ⟨fun h => absurd h (by show ¬ ((i : Int) < 0); omega), fun _ => ⟨i, rfl, ?_⟩⟩
          rw [dropL L i hi]
          simp only [run0]
          rw [stp_1 rfl, if_pos e2]
        · rw [if_neg e2, dropL L i hi]
          simp only [run0]
          rw [stp_1 rfl, if_neg e2]
          simp only [CS.plain]
          rw [if_neg e1]
          obtain ⟨a, b⟩ := run0_b (L := L) g (i + 1) ⟨1, ws, wd, s ++ tx L i⟩ (by omega) (by omega) rfl
          exact ⟨fun h => by obtain ⟨x, y, z, u⟩ := a h; exact ⟨Nat.le_of_succ_le x, y, z, u⟩, b⟩
    · simp only [bare]
      rw [if_neg hi]
      refine ⟨fun _ => ⟨Nat.le_refl _, hi0, fun h => absurd h hi, rfl⟩, fun h => absurd (show (-1 : Int) < 0 by decide) h⟩

/-- what the document gives, and what the program does. -/
def Rel : Except Nat (List W3 × Int) → Nat ⊕ CS → Prop
  | .error p, .inr S => S.shut = false ∧ S.wd.c = p
  | .ok (a, b), .inr S => b = -1 ∧ S.shut = true ∧ S.last.ws = a
  | .ok (_, b), .inl j => b = j
  | .error _, .inl _ => False
theorem shut_of {S : CS} {n : Nat} (h : S.wh = n) (h2 : n ≠ 2) (h3 : n ≠ 3) : S.shut = true := by rw [CS.shut, h, decide_eq_true h2, decide_eq_true h3]; rfl
theorem run0_w {L : List (ByteArray × Bool)} : ∀ (f i : Nat) (S : CS), L.length ≤ i + f → i ≤ L.length → S.wh = 0 → S.tx = emp → Rel (wds L f i S.ws) (run0 (L.drop i) i S)
  | 0, i, S, hf, hi0, h0, ht => by
    rw [dropE L i (by omega), wds]
    exact ⟨rfl, shut_of h0 (by decide) (by decide), by rw [CS.last, if_neg (by omega)]⟩
  | f + 1, i, S, hf, hi0, h0, ht => by
    by_cases hi : i < L.length
    · rw [wds, if_pos hi, dropL L i hi]
      simp only [run0]
      rw [stp_0 h0]
      simp only [CS.first]
      by_cases e0 : (tx L i).toList = [35]
      · rw [if_pos e0, if_neg (by rw [bl_35 e0]; decide), if_pos e0, run0_rem _ _ _ rfl]
        exact ⟨rfl, shut_of (n := 5) rfl (by decide) (by decide), rfl⟩
      · rw [if_neg e0]
        by_cases e1 : bl1 (tx L i) = true
        · rw [if_pos e1, if_pos e1]
          exact run0_w f (i + 1) S (by omega) (by omega) h0 ht
        · rw [if_neg e1, if_neg e1, if_neg e0]
          by_cases e2 : (tx L i).toList = [34]
          · rw [if_pos e2, if_pos e2]
            obtain ⟨a, b⟩ := run0_q (L := L) L.length (i + 1) ((S.beg i true).to 2) (by omega) rfl
            have etx : ((S.beg i true).to 2).tx = ⟨#[]⟩ := ht
            rw [etx] at a b
            cases hq : qt L L.length (i + 1) ⟨#[]⟩ with
            | none =>
              obtain ⟨S', r1, r2, r3⟩ := a hq
              rw [r1]
              exact ⟨r2, r3⟩
            | some tj =>
              obtain ⟨t, j⟩ := tj
              obtain ⟨hj, hij, r1⟩ := b t j hq
              rw [r1]
              simp only
              have er : (⟨4, ((S.beg i true).to 2).ws ++ [⟨t, ((S.beg i true).to 2).wd.c, ((S.beg i true).to 2).wd.q⟩], ⟨t, ((S.beg i true).to 2).wd.c, ((S.beg i true).to 2).wd.q⟩, emp⟩ : CS) = ⟨4, S.ws ++ [⟨t, (i : Int), true⟩], ⟨t, (i : Int), true⟩, emp⟩ := rfl
              rw [er]
              by_cases cj : j < L.length
              · rw [if_pos cj]
                by_cases e3 : bl1 (tx L j) = true
                · rw [if_pos e3]
                  have ih := run0_w (L := L) f j ⟨0, S.ws ++ [⟨t, (i : Int), true⟩], ⟨t, (i : Int), true⟩, emp⟩ (by omega) (by omega) rfl rfl
                  rw [dropL L j cj] at ih ⊢
                  simp only [run0] at ih ⊢
                  rw [stp_0 rfl] at ih
                  rw [stp_4 rfl, if_pos e3]
                  simp only [CS.first] at ih
                  rw [if_pos e3] at ih
                  exact ih
                · rw [if_neg e3, dropL L j cj]
                  simp only [run0]
                  rw [stp_4 rfl, if_neg e3]
                  rfl
              · rw [if_neg cj, dropE L j cj]
                exact ⟨rfl, shut_of (n := 4) rfl (by decide) (by decide), rfl⟩
          · rw [if_neg e2, if_neg e2]
            have hb := run0_b (L := L) L.length i ⟨1, S.ws, ⟨emp, i, false⟩, emp⟩ (by omega) hi0 rfl
            have er : run0 (L.drop (i + 1)) (i + 1) (((S.beg i false).add (tx L i)).to 1) = run0 (L.drop i) i ⟨1, S.ws, ⟨emp, i, false⟩, emp⟩ := by
              rw [dropL L i hi]
              simp only [run0]
              rw [stp_1 rfl, if_neg e2]
              simp only [CS.plain]
              rw [if_neg e1]
              show run0 _ _ ⟨1, S.ws, ⟨emp, i, false⟩, S.tx ++ tx L i⟩ = _
              rw [ht]
              rfl
            rw [er]
            have eb : bare L L.length i (⟨1, S.ws, ⟨emp, i, false⟩, emp⟩ : CS).tx = bare L L.length i ⟨#[]⟩ := rfl
            rw [eb] at hb
            have hpos : (bare L L.length i ⟨#[]⟩).2.2 < 0 → i + 1 ≤ (bare L L.length i ⟨#[]⟩).2.1 := fun h => by
              obtain ⟨x, y, z, _⟩ := hb.1 h
              rcases Nat.lt_or_ge i (bare L L.length i ⟨#[]⟩).2.1 with h' | h'
              · exact h'
              · have e : (bare L L.length i ⟨#[]⟩).2.1 = i := by omega
                rw [e] at z
                exact absurd (z hi) e1
            generalize bare L L.length i ⟨#[]⟩ = B at *
            obtain ⟨t, m, b⟩ := B
            simp only at hb hpos ⊢
            by_cases hbn : b < 0
            · obtain ⟨x, y, z, u⟩ := hb.1 hbn
              have hp := hpos hbn
              rw [if_pos hbn, u]
              by_cases cm : m < L.length
              · have e3 := z cm
                have ih := run0_w (L := L) f m ⟨0, S.ws ++ [⟨t, (i : Int), false⟩], ⟨t, (i : Int), false⟩, emp⟩ (by omega) y rfl rfl
                rw [dropL L m cm] at ih ⊢
                simp only [run0] at ih ⊢
                rw [stp_0 rfl] at ih
                rw [stp_1 rfl, if_neg (fun h => by rw [bl_34 h] at e3; cases e3)]
                simp only [CS.first] at ih
                simp only [CS.plain]
                rw [if_pos e3] at ih ⊢
                exact ih
              · rw [dropE L m cm]
                have e4 : wds L f m (S.ws ++ [⟨t, (i : Int), false⟩]) = .ok (S.ws ++ [⟨t, (i : Int), false⟩], -1) := by
                  cases f with
                  | zero => rfl
                  | succ f => rw [wds, if_neg cm]
                rw [e4]
                exact ⟨rfl, shut_of (n := 1) rfl (by decide) (by decide), rfl⟩
            · obtain ⟨j, r1, r2⟩ := hb.2 hbn
              rw [if_neg hbn, r2, r1]
              rfl
    · rw [wds, if_neg hi, dropE L i hi]
      exact ⟨rfl, shut_of h0 (by decide) (by decide), by rw [CS.last, if_neg (by omega)]⟩

/-- the program's words and the document's. -/
theorem sp_same (s : ByteArray) : (∀ ch, spR s = .inl ch → 0 ≤ ch ∧ (spl (chars s)).2 = ch) ∧ (∀ ws, spR s = .inr ws → spl (chars s) = (ws, -1)) := by
  have W := run0_w (L := chars s) (chars s).length 0 cs0 (by omega) (Nat.zero_le _) rfl rfl
  obtain ⟨R1, R2, _⟩ := run_run0 (chars s) 0 cs0
  have LE := fw_le (chars s) 0
  rw [List.drop_zero] at W
  have ews : cs0.ws = [] := rfl
  rw [ews] at W
  have R1 : run (chars s) 0 cs0 = cmb (fwrong (chars s)) (chars s).length (run0 (chars s) 0 cs0) := by
    rw [R1, Nat.zero_add]; rfl
  have LE : fwrong (chars s) ≤ (chars s).length := by rw [Nat.zero_add] at LE; exact LE
  rw [Nat.zero_add] at R2
  unfold spR spl
  rw [R1]
  cases hw : wds (chars s) (chars s).length 0 [] with
  | error p =>
    cases hr : run0 (chars s) 0 cs0 with
    | inl j => rw [hw, hr] at W; exact absurd W id
    | inr S =>
      rw [hw, hr] at W
      obtain ⟨w1, w2⟩ := W
      simp only [cmb]
      by_cases c : fwrong (chars s) < (chars s).length
      · rw [if_pos c, if_pos c]
        refine ⟨fun ch h => ?_, fun ws h => by cases h⟩
        simp only [Sum.inl.injEq] at h
        subst h
        exact ⟨by omega, rfl⟩
      · rw [if_neg c, if_neg c]
        simp only [w1]
        refine ⟨fun ch h => ?_, fun ws h => by cases h⟩
        have h : Sum.inl S.wd.c = (Sum.inl ch : Int ⊕ List W3) := h
        simp only [Sum.inl.injEq] at h
        subst h
        rw [w2]
        exact ⟨by omega, rfl⟩
  | ok ab =>
    obtain ⟨a, b⟩ := ab
    cases hr : run0 (chars s) 0 cs0 with
    | inl j =>
      rw [hw, hr] at W
      have W : b = (j : Int) := W
      subst W
      obtain ⟨_, hj⟩ := R2 j hr
      simp only [cmb]
      refine ⟨fun ch h => ?_, fun ws h => by cases h⟩
      simp only [Sum.inl.injEq] at h
      subst h
      refine ⟨by omega, ?_⟩
      by_cases c : fwrong (chars s) < (chars s).length ∧ ((j : Int) < 0 ∨ ((fwrong (chars s) : Nat) : Int) < (j : Int))
      · rw [if_pos c]
        show ((fwrong (chars s) : Nat) : Int) = _
        omega
      · rw [if_neg c, if_pos (by omega)]
        show (j : Int) = _
        omega
    | inr S =>
      rw [hw, hr] at W
      obtain ⟨rfl, w1, w2⟩ := W
      simp only [cmb]
      by_cases c : fwrong (chars s) < (chars s).length
      · rw [if_pos c, if_pos (And.intro c (Or.inl (show (-1 : Int) < 0 by decide)))]
        refine ⟨fun ch h => ?_, fun ws h => by cases h⟩
        simp only [Sum.inl.injEq] at h
        subst h
        exact ⟨by omega, rfl⟩
      · rw [if_neg c, if_neg (fun h => c (And.left h)), if_neg (show ¬ (0 : Int) ≤ -1 by decide)]
        simp only [w1, if_true]
        refine ⟨fun ch h => (by cases h), fun ws h => ?_⟩
        simp only [Sum.inr.injEq] at h
        rw [← h, w2]
end Go.Proofs.YtoecgabdjpgleaaGreatDoor.Wd
