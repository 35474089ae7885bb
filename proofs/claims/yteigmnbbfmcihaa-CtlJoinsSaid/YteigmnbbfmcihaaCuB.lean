/-
  Cut's pieces in whatever order; a piece too few; a piece twice.
  Conditions: none.
-/
import Derived.Test.YteigmnbbfmcihaaCuA
namespace Go.Proofs.Yteigmnbbfmcihaa.Ct
open Go.RowKit Go.ChangeShapes Go.WideShapes Go.ChangeAt Go.Joins By
set_option linter.unusedVariables false
set_option linter.unusedSimpArgs false

/-- the pieces of n bytes. -/
def pcs (f : Fr) (n : Nat) (g : Nat → Nat) : List Fr := (List.range (npc n)).map (pc f n g)
theorem pcs_len (f : Fr) (n : Nat) (g : Nat → Nat) : (pcs f n g).length = npc n := by simp [pcs]
theorem pcs_at {f : Fr} {n : Nat} {g : Nat → Nat} {i : Nat} (h : i < npc n) : (pcs f n g)[i]? = some (pc f n g i) := by
  unfold pcs
  rw [List.getElem?_map, List.getElem?_range h]
  rfl
theorem npc_pos (n : Nat) : 0 < npc n := npc_iff.2 (.inl rfl)
theorem npc_succ {n i : Nat} : i + 1 < npc n ↔ 468 * i + 468 < n := by
  rw [npc_iff]
  omega
theorem bl_join (g : Nat → Nat) (a b : Nat) : bl g a ++ bl (fun k => g (a + k)) b = bl g (a + b) := by
  unfold bl
  rw [List.range_add, List.map_append, List.map_map]
  rfl
theorem pcs_mem {f : Fr} {n : Nat} {g : Nat → Nat} {x : Fr} : x ∈ pcs f n g ↔ ∃ i, i < npc n ∧ pc f n g i = x := by simp [pcs]
theorem pc_ok {f : Fr} {n : Nat} {g : Nat → Nat} (hf : okFr f = true) (hn : n ≤ 65535) {i : Nat} (hi : i < npc n) : okFr (pc f n g i) = true := by
  have h := okFr_cut hf
  have hl : (pc f n g i).dat.length ≤ 468 := by show (bl _ _).length ≤ 468; rw [bl_len]; omega
  have ho : ((468 * i : Nat) : Int) ≤ 65535 := by rcases npc_iff.1 hi with q | q <;> omega
  have h0 : (0 : Int) ≤ ((468 * i : Nat) : Int) := by omega
  simp only [okFr, btw, Bool.and_eq_true, decide_eq_true_eq] at hf ⊢
  refine ⟨⟨⟨⟨⟨⟨?_, ?_⟩, ?_⟩, ?_⟩, ?_⟩, ?_⟩, hl⟩
  · exact hf.1.1.1.1.1.1
  · exact hf.1.1.1.1.1.2
  · exact hf.1.1.1.1.2
  · exact hf.1.1.1.2
  · exact hf.1.1.2
  · exact ⟨h0, ho⟩
theorem pc_like (f : Fr) (n : Nat) (g : Nat → Nat) (i j : Nat) : like (pc f n g i) (pc f n g j) = true := by simp [like, pc]
theorem pcs_shp {f : Fr} {n : Nat} {g : Nat → Nat} (hf : okFr f = true) (hn : n ≤ 65535) {L : List Fr} (h : ∀ x ∈ L, x ∈ pcs f n g) : shp L = true := by
  unfold shp
  rw [List.all_eq_true]
  intro x hx
  obtain ⟨i, hi, rfl⟩ := pcs_mem.1 (h x hx)
  cases L with
  | nil => cases hx
  | cons y r =>
    obtain ⟨j, hj, e⟩ := pcs_mem.1 (h y (List.mem_cons_self ..))
    rw [Bool.and_eq_true]
    refine ⟨pc_ok hf hn hi, ?_⟩
    show like _ y = true
    rw [← e]
    exact pc_like f n g i j
theorem pcs_lt (f : Fr) (n : Nat) (g : Nat → Nat) : (pcs f n g).Pairwise lt := by
  unfold pcs
  rw [List.pairwise_map]
  exact List.pairwise_lt_range.imp fun {a b} h => by
    show ((468 * a : Nat) : Int) < ((468 * b : Nat) : Int)
    omega
/-- as far as the pieces follow one upon the other. -/
theorem jn_go {f : Fr} {n : Nat} {g : Nat → Nat} {M : List Fr} : ∀ K : Nat, (∀ j, j < K → M[j]? = some (pc f n g j) ∧ j + 1 < M.length ∧ 468 * j + 468 < n) → jn [] M = jn (bl g (468 * K)) (M.drop K)
  | 0, _ => by simp [bl]
  | K + 1, h => by
    obtain ⟨h1, h2, h3⟩ := h K (Nat.lt_succ_self _)
    rw [jn_go K (fun j hj => h j (by omega)), jn_at h1, if_pos]
    · congr 1
      show bl g (468 * K) ++ bl (fun k => g (468 * K + k)) (min (468 * K + 468) n - 468 * K) = _
      rw [bl_join]
      congr 1
      omega
    · refine ⟨?_, ?_⟩
      · show ((468 * K : Nat) : Int) = _
        rw [bl_len]
      · show decide (468 * K + 468 < n) = _
        rw [decide_eq_true h3, decide_eq_false (by omega)]
        rfl
theorem pcs_jn (f : Fr) (n : Nat) (g : Nat → Nat) : jn [] (pcs f n g) = some (bl g n) := by
  obtain ⟨m, hm⟩ : ∃ m, npc n = m + 1 := ⟨npc n - 1, by have := npc_pos n; omega⟩
  rw [jn_go m (fun j hj => ⟨pcs_at (by omega), by rw [pcs_len]; omega, npc_succ.1 (by omega)⟩), jn_at (pcs_at (by omega)), pcs_len, if_pos]
  · rw [List.drop_of_length_le (by rw [pcs_len]; omega), jn]
    congr 1
    show bl g (468 * m) ++ bl (fun k => g (468 * m + k)) (min (468 * m + 468) n - 468 * m) = _
    rw [bl_join]
    congr 1
    have a : ¬ 468 * m + 468 < n := fun q => by have := npc_succ.2 q; omega
    have b : 468 * m ≤ n := by rcases npc_iff.1 (show m < npc n by omega) with q | q <;> omega
    omega
  · refine ⟨?_, ?_⟩
    · show ((468 * m : Nat) : Int) = _
      rw [bl_len]
    · show decide (468 * m + 468 < n) = _
      rw [decide_eq_false (fun q => by have := npc_succ.2 q; omega), decide_eq_true hm.symm]
      rfl
/-- in whatever order. -/
theorem mixed_j {f : Fr} {n : Nat} {g : Nat → Nat} (hf : okFr f = true) (hn : n ≤ 65535) {L : List Fr} (h : (pcs f n g).Perm L) : jE L = 0 ∧ jD L = bl g n := by
  have j := jE_of h (pcs_lt f n g) (pcs_shp hf hn fun x hx => h.mem_iff.2 hx)
  have ok : jok (pcs f n g) = true := by
    unfold jok
    rw [pcs_jn]
    have : (pcs f n g).isEmpty = false := by
      rw [List.isEmpty_eq_false_iff]
      intro q
      have := pcs_len f n g
      rw [q] at this
      have := npc_pos n
      simp at *
      omega
    rw [this]
    rfl
  rw [if_pos ok] at j
  refine ⟨j.1, j.2.trans ?_⟩
  unfold jv
  rw [if_pos ok, pcs_jn]
  rfl
/-- one too few. -/
theorem less_j {f : Fr} {n : Nat} {g : Nat → Nat} (hf : okFr f = true) (hn : n ≤ 65535) {k : Nat} (hk : k < npc n) : jE ((pcs f n g).take k ++ (pcs f n g).drop (k + 1)) = 5 ∧ jD ((pcs f n g).take k ++ (pcs f n g).drop (k + 1)) = [] := by
  have sub : ((pcs f n g).take k ++ (pcs f n g).drop (k + 1)).Sublist (pcs f n g) := by
    rw [← List.eraseIdx_eq_take_drop_succ]
    exact List.eraseIdx_sublist ..
  have j := jE_of (List.Perm.refl _) ((pcs_lt f n g).sublist sub) (pcs_shp hf hn fun x hx => sub.subset hx)
  have ln : ((pcs f n g).take k ++ (pcs f n g).drop (k + 1)).length = npc n - 1 := by
    rw [List.length_append, List.length_take, List.length_drop, pcs_len]; omega
  have at1 : ∀ i, i < k → ((pcs f n g).take k ++ (pcs f n g).drop (k + 1))[i]? = some (pc f n g i) := fun i hi => by
    rw [List.getElem?_append_left (by rw [List.length_take, pcs_len]; omega), List.getElem?_take, if_pos hi, pcs_at (by omega)]
  have no : jok ((pcs f n g).take k ++ (pcs f n g).drop (k + 1)) = false := by
    by_cases c : k + 1 < npc n
    · refine jok_no ?_
      have e : ((pcs f n g).take k ++ (pcs f n g).drop (k + 1))[k]? = some (pc f n g (k + 1)) := by
        rw [List.getElem?_append_right (by rw [List.length_take, pcs_len]; omega), List.length_take, pcs_len, List.getElem?_drop, show k + 1 + (k - min k (npc n)) = k + 1 by omega, pcs_at c]
      rw [jn_go k (fun i hi => ⟨at1 i hi, by rw [ln]; omega, npc_succ.1 (by omega)⟩), jn_at e, if_neg]
      rintro ⟨q, _⟩
      have q' : ((468 * (k + 1) : Nat) : Int) = ((bl g (468 * k)).length : Int) := q
      rw [bl_len] at q'
      omega
    · cases k with
      | zero =>
        have : ((pcs f n g).take 0 ++ (pcs f n g).drop (0 + 1)) = [] := List.length_eq_zero_iff.1 (by rw [ln]; omega)
        rw [this]
        rfl
      | succ m =>
        refine jok_no ?_
        rw [jn_go m (fun i hi => ⟨at1 i (by omega), by rw [ln]; omega, npc_succ.1 (by omega)⟩), jn_at (at1 m (by omega)), if_neg]
        rintro ⟨_, q⟩
        have q' : decide (468 * m + 468 < n) = !decide (m + 1 = ((pcs f n g).take (m + 1) ++ (pcs f n g).drop (m + 1 + 1)).length) := q
        rw [ln, decide_eq_true (npc_succ.1 (by omega)), decide_eq_true (by omega)] at q'
        cases q'
  rw [no] at j
  exact ⟨j.1, j.2.trans (jv_no no)⟩
/-- one twice. -/
theorem twice_j {f : Fr} {n : Nat} {g : Nat → Nat} (hf : okFr f = true) (hn : n ≤ 65535) {k : Nat} (hk : k < npc n) : jE (pcs f n g ++ [pc f n g k]) = 7 := by
  have hm : pc f n g k ∈ pcs f n g := pcs_mem.2 ⟨k, hk, rfl⟩
  refine (jE_twice (pcs_shp (g := g) hf hn fun x hx => ?_) ?_).1
  · rcases List.mem_append.1 hx with q | q
    · exact q
    · rw [List.mem_singleton.1 q]; exact hm
  · rw [List.map_append, List.nodup_append]
    rintro ⟨_, _, q⟩
    exact q _ (List.mem_map_of_mem hm) _ (List.mem_map_of_mem (List.mem_singleton.2 rfl)) rfl
end Go.Proofs.Yteigmnbbfmcihaa.Ct
