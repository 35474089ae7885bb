/-
  What Join answers; that the sorted row tells it.
  Conditions: none.
-/
import Derived.Test.YteigmnbbfmcihaaCtV
namespace Go.Proofs.Yteigmnbbfmcihaa.Ct
open Go.RowKit Go.ChangeShapes Go.WideShapes Go.ChangeAt Go.Joins By
set_option linter.unusedVariables false
set_option linter.unusedSimpArgs false

/-- all frames, all like the first. -/
def shp (l : List Fr) : Bool := l.all fun f => okFr f && like f (l.headD fr0)
def jr (l : List Fr) : Option (List Nat) := if l = [] then none else rj l l.length []
/-- what Join answers. -/
def jE (l : List Fr) : Int := if shp l = true then (if (l.map (·.off)).Nodup then (if (jr l).isSome = true then 0 else 5) else 7) else 3
def jD (l : List Fr) : List Nat := if jE l = 0 then (jr l).getD [] else []
def PJoin (l : List Fr) (w : World) (e : Ending) (w' : World) : Prop := (∃ v, e = .returned (.tuple #[v, .int .i64 (jE l)]) ∧ Own w' w.heap.size v (jD l)) ∧ Below w.heap.size w w'
theorem up_strict : ∀ M : List Fr, M.Pairwise (fun a b => ¬ b.off < a.off) → (∀ i a b, M[i]? = some a → M[i + 1]? = some b → b.off ≠ a.off) → M.Pairwise lt
  | [], _, _ => List.Pairwise.nil
  | [a], _, _ => List.pairwise_singleton _ _
  | a :: b :: r, h, k => by
    obtain ⟨h1, h2⟩ := List.pairwise_cons.1 h
    have ih := up_strict (b :: r) h2 fun i x y hx hy => k (i + 1) x y hx hy
    have q0 := h1 b (by simp)
    have q1 := k 0 a b rfl rfl
    have ab : a.off < b.off := by omega
    refine List.pairwise_cons.2 ⟨fun x hx => ?_, ih⟩
    rcases List.mem_cons.1 hx with rfl | hx
    · exact ab
    · have := (List.pairwise_cons.1 ih).1 x hx
      unfold lt at this ⊢
      omega
theorem lt_dis {M : List Fr} (h : M.Pairwise lt) : (M.map (·.off)).Nodup := by
  refine List.pairwise_map.2 (h.imp fun {a b} q => ?_)
  unfold lt at q
  omega
theorem twice_dis {M : List Fr} {i : Nat} {a b : Fr} (h1 : M[i]? = some a) (h2 : M[i + 1]? = some b) (e : b.off = a.off) : ¬ (M.map (·.off)).Nodup := by
  intro h
  obtain ⟨p1, rfl⟩ := List.getElem?_eq_some_iff.1 h1
  obtain ⟨p2, rfl⟩ := List.getElem?_eq_some_iff.1 h2
  have := List.pairwise_iff_getElem.1 h i (i + 1) (by simpa using p1) (by simpa using p2) (by omega)
  simp only [List.getElem_map] at this
  exact this e.symm
theorem shp_mem {l : List Fr} (h : shp l = true) : ∀ f ∈ l, okFr f = true ∧ like f (l.headD fr0) = true := fun f hf => by
  have := List.all_eq_true.1 h f hf
  simpa using this
theorem ok_off {f : Fr} (h : okFr f = true) : 0 ≤ f.off := by
  unfold okFr btw at h
  simp only [Bool.and_eq_true, decide_eq_true_eq] at h
  omega
/-- the sorted row tells the answer. -/
theorem jE_of {L M : List Fr} (hp : M.Perm L) (hs : M.Pairwise lt) (sh : shp L = true) : jE L = (if jok M = true then 0 else 5) ∧ jD L = jv M := by
  have hd : (L.map (·.off)).Nodup := (hp.map _).nodup_iff.1 (lt_dis hs)
  have hn : ∀ a ∈ L, ∀ b ∈ L, a.off = b.off → a = b := by
    intro a ha b hb e
    obtain ⟨i, hi, rfl⟩ := List.mem_iff_getElem.1 ha
    obtain ⟨j, hj, rfl⟩ := List.mem_iff_getElem.1 hb
    have : i = j := by
      rcases Nat.lt_trichotomy i j with q | q | q
      · have := List.pairwise_iff_getElem.1 hd i j (by simpa using hi) (by simpa using hj) q
        simp only [List.getElem_map] at this
        exact absurd e this
      · exact q
      · have := List.pairwise_iff_getElem.1 hd j i (by simpa using hj) (by simpa using hi) q
        simp only [List.getElem_map] at this
        exact absurd e.symm this
    subst this
    rfl
  have e := rj_jn hn (fun a ha => ok_off (shp_mem sh a ha).1) hp.length_eq (fun a => hp.mem_iff) hs
  have hj : jr L = if M.isEmpty = true then none else jn [] M := by
    unfold jr
    rw [e]
    by_cases c : L = []
    · have : M = [] := by rw [c] at hp; exact List.perm_nil.1 hp
      rw [c, this]; rfl
    · have : ¬ M.isEmpty = true := fun q => c (by rw [List.isEmpty_iff.1 q] at hp; exact (List.nil_perm.1 hp))
      rw [if_neg c, if_neg this]
  have hk : (jr L).isSome = jok M := by
    rw [hj]
    unfold jok
    by_cases q : M.isEmpty = true
    · rw [if_pos q, q]; rfl
    · rw [if_neg q]
      simp only [Bool.not_eq_true] at q
      rw [q]; rfl
  have hE : jE L = (if jok M = true then 0 else 5) := by unfold jE; rw [if_pos sh, if_pos hd, hk]
  refine ⟨hE, ?_⟩
  unfold jD jv
  by_cases q : jok M = true
  · rw [hE, if_pos q, if_pos rfl, hj]
    have : ¬ M.isEmpty = true := fun z => by unfold jok at q; rw [z] at q; simp at q
    rw [if_neg this, if_pos q]
  · rw [hE, if_neg q, if_neg (by decide), if_neg q]
theorem jE_shp {L : List Fr} (h : shp L = false) : jE L = 3 ∧ jD L = [] := by
  have e : jE L = 3 := by unfold jE; rw [h]; rfl
  exact ⟨e, by unfold jD; rw [e]; rfl⟩
theorem jE_twice {L : List Fr} (sh : shp L = true) (h : ¬ (L.map (·.off)).Nodup) : jE L = 7 ∧ jD L = [] := by
  have e : jE L = 7 := by unfold jE; rw [if_pos sh, if_neg h]
  exact ⟨e, by unfold jD; rw [e]; rfl⟩
end Go.Proofs.Yteigmnbbfmcihaa.Ct
