/-
  Frames put together: by their Offsets, rising, and as the document finds them; that both are one.
  Conditions: none.
-/
import Derived.Test.YteigmnbbfmcihaaCtQ
namespace Go.Proofs.Yteigmnbbfmcihaa.Ct
open Go.RowKit Go.ChangeShapes Go.WideShapes Go.ChangeAt Go.Joins By
set_option linter.unusedVariables false
set_option linter.unusedSimpArgs false

/-- the data of frames that stand in their order. -/
def jn : List Nat → List Fr → Option (List Nat)
  | acc, [] => some acc
  | acc, f :: r => if f.off = (acc.length : Int) ∧ f.more = !r.isEmpty then jn (acc ++ f.dat) r else none
/-- the document's way: k frames are left to be found. -/
def rj (L : List Fr) : Nat → List Nat → Option (List Nat)
  | 0, out => some out
  | k + 1, out => match L.find? (fun f => decide (f.off = (out.length : Int)) && (decide (k + 1 = L.length) || decide (0 < f.off))) with
    | none => none
    | some f => if f.more = decide (0 < k) ∧ (f.dat ≠ [] ∨ k = 0) then rj L k (out ++ f.dat) else none
def lt (a b : Fr) : Prop := a.off < b.off
theorem rj_run {L : List Fr} : ∀ (k : Nat) (out res : List Nat), rj L k out = some res →
    ∃ T : List Fr, T.length = k ∧ (∀ f ∈ T, f ∈ L) ∧ T.Pairwise lt ∧ (∀ f ∈ T, (out.length : Int) ≤ f.off) ∧ jn out T = some res
  | 0, out, res, h => ⟨[], rfl, fun f h => (by cases h), List.Pairwise.nil, fun f h => (by cases h), h⟩
  | k + 1, out, res, h => by
    unfold rj at h
    split at h
    · cases h
    · rename_i f hf
      have hp := List.find?_some hf
      have hm := List.mem_of_find?_eq_some hf
      simp only [Bool.and_eq_true, decide_eq_true_eq] at hp
      split at h
      · rename_i c
        obtain ⟨T, t1, t2, t3, t4, t5⟩ := rj_run k _ res h
        have up : ∀ x ∈ T, f.off < x.off := fun x hx => by
          have := t4 x hx
          have hk : k ≠ 0 := fun q => by rw [q] at t1; rw [List.length_eq_zero_iff.1 t1] at hx; cases hx
          have hd : f.dat ≠ [] := c.2.resolve_right hk
          have hl : 0 < f.dat.length := List.length_pos_iff.2 hd
          rw [List.length_append] at this
          rw [hp.1]
          omega
        refine ⟨f :: T, by simp [t1], fun x hx => ?_, List.pairwise_cons.2 ⟨up, t3⟩, fun x hx => ?_, ?_⟩
        · rcases List.mem_cons.1 hx with rfl | hx
          · exact hm
          · exact t2 x hx
        · rcases List.mem_cons.1 hx with rfl | hx
          · rw [hp.1]; exact Int.le_refl _
          · have := up x hx; rw [hp.1] at this; omega
        · have hmo : f.more = !T.isEmpty := by
            rw [c.1]
            cases T with
            | nil => simp at t1; subst t1; rfl
            | cons a b => simp at t1; simp <;> omega
          rw [jn, if_pos ⟨hp.1, hmo⟩]
          exact t5
      · cases h
theorem jn_rj {L R : List Fr} (hn : ∀ a ∈ L, ∀ b ∈ L, a.off = b.off → a = b) (h0 : ∀ a ∈ L, 0 ≤ a.off) (hl : R.length = L.length) (hm : ∀ a ∈ R, a ∈ L) (hs : R.Pairwise lt) :
    ∀ (R' P : List Fr) (acc res : List Nat), R = P ++ R' → jn acc R' = some res → rj L R'.length acc = some res
  | [], P, acc, res, e, h => h
  | f :: r, P, acc, res, e, h => by
    rw [jn] at h
    split at h
    · rename_i c
      have hf : f ∈ L := hm f (by rw [e]; simp)
      have pos : r.length + 1 = L.length ∨ 0 < f.off := by
        cases P with
        | nil => left; rw [← hl, e]; simp
        | cons p q =>
          right
          have h1 := h0 p (hm p (by rw [e]; simp))
          rw [e] at hs
          have := (List.pairwise_cons.1 hs).1 f (by simp)
          unfold lt at this
          omega
      show rj L (r.length + 1) acc = some res
      have hfind : L.find? (fun x => decide (x.off = (acc.length : Int)) && (decide (r.length + 1 = L.length) || decide (0 < x.off))) = some f := by
        cases q : L.find? (fun x => decide (x.off = (acc.length : Int)) && (decide (r.length + 1 = L.length) || decide (0 < x.off))) with
        | none =>
          have := List.find?_eq_none.1 q f hf
          simp only [Bool.and_eq_true, Bool.or_eq_true, decide_eq_true_eq] at this
          exact absurd ⟨c.1, pos⟩ this
        | some x =>
          have h1 := List.find?_some q
          have h2 := List.mem_of_find?_eq_some q
          simp only [Bool.and_eq_true, decide_eq_true_eq] at h1
          rw [hn x h2 f hf (by rw [h1.1, c.1])]
      rw [rj, hfind]
      simp only
      have hmo : f.more = decide (0 < r.length) := by
        rw [c.2]
        cases r with
        | nil => rfl
        | cons a b => simp
      have hda : f.dat ≠ [] ∨ r.length = 0 := by
        cases r with
        | nil => exact .inr rfl
        | cons a b =>
          left
          intro hd
          rw [hd, List.append_nil, jn] at h
          split at h
          · rename_i c2
            rw [e] at hs
            have h3 := (List.pairwise_append.1 hs).2.1
            have h4 := (List.pairwise_cons.1 h3).1 a (by simp)
            unfold lt at h4
            rw [c.1, c2.1] at h4
            omega
          · cases h
      rw [if_pos ⟨hmo, hda⟩]
      exact jn_rj hn h0 hl hm hs r (P ++ [f]) _ _ (by rw [e]; simp) h
    · cases h
deriving instance DecidableEq for Fr
theorem sub_len : ∀ (T L : List Fr), T.Nodup → (∀ f ∈ T, f ∈ L) → L.length ≤ T.length → ∀ f ∈ L, f ∈ T
  | [], L, _, _, hl, f, hf => by
    have : L = [] := List.length_eq_zero_iff.1 (by simpa using hl)
    rw [this] at hf
    cases hf
  | t :: T, L, hn, hm, hl, f, hf => by
    have ht := hm t (by simp)
    obtain ⟨h1, h2⟩ := List.nodup_cons.1 hn
    by_cases c : f = t
    · rw [c]; simp
    · refine List.mem_cons_of_mem _ (sub_len T (L.erase t) h2 (fun x hx => ?_) ?_ f ?_)
      · exact (List.mem_erase_of_ne (fun q => by rw [q] at hx; exact h1 hx)).2 (hm x (List.mem_cons_of_mem _ hx))
      · rw [List.length_erase_of_mem ht]
        simp at hl
        omega
      · exact (List.mem_erase_of_ne c).2 hf
theorem lt_nodup {T : List Fr} (h : T.Pairwise lt) : T.Nodup := h.imp fun {a b} h q => by rw [q] at h; unfold lt at h; omega
/-- two lists that rise and have the same frames are one. -/
theorem rise_one : ∀ (S T : List Fr), S.Pairwise lt → T.Pairwise lt → (∀ f, f ∈ S ↔ f ∈ T) → S = T
  | [], T, _, _, h => by
    cases T with
    | nil => rfl
    | cons t T => have := (h t).2 (by simp); cases this
  | s :: S, [], _, _, h => by have := (h s).1 (by simp); cases this
  | s :: S, t :: T, hs, ht, h => by
    obtain ⟨s1, s2⟩ := List.pairwise_cons.1 hs
    obtain ⟨t1, t2⟩ := List.pairwise_cons.1 ht
    have e : s = t := by
      rcases List.mem_cons.1 ((h s).1 (by simp)) with q | q
      · exact q
      · rcases List.mem_cons.1 ((h t).2 (by simp)) with q2 | q2
        · exact q2.symm
        · have h1 := t1 s q
          have h2 := s1 t q2
          unfold lt at h1 h2
          omega
    subst e
    refine congrArg _ (rise_one S T s2 t2 fun f => ⟨fun hf => ?_, fun hf => ?_⟩)
    · rcases List.mem_cons.1 ((h f).1 (List.mem_cons_of_mem _ hf)) with q | q
      · have := s1 f hf; unfold lt at this; rw [q] at this; omega
      · exact q
    · rcases List.mem_cons.1 ((h f).2 (List.mem_cons_of_mem _ hf)) with q | q
      · have := t1 f hf; unfold lt at this; rw [q] at this; omega
      · exact q
/-- the document's way and the rising one answer the same. -/
theorem rj_jn {L R : List Fr} (hn : ∀ a ∈ L, ∀ b ∈ L, a.off = b.off → a = b) (h0 : ∀ a ∈ L, 0 ≤ a.off) (hl : R.length = L.length) (hm : ∀ a, a ∈ R ↔ a ∈ L) (hs : R.Pairwise lt) : rj L L.length [] = jn [] R := by
  cases q : jn [] R with
  | some res => rw [← hl]; exact jn_rj hn h0 hl (fun a h => (hm a).1 h) hs R [] [] res rfl q
  | none =>
    cases q2 : rj L L.length [] with
    | none => rfl
    | some res =>
      obtain ⟨T, t1, t2, t3, _, t5⟩ := rj_run _ _ _ q2
      have e : T = R := rise_one T R t3 hs fun f => ⟨fun h => (hm f).2 (t2 f h), fun h => sub_len T L (lt_nodup t3) t2 (by omega) f ((hm f).1 h)⟩
      rw [e, q] at t5
      cases t5
end Go.Proofs.Yteigmnbbfmcihaa.Ct
