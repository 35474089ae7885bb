/-
  Votes: candidates, the intersection and its truechimers, the survivors, what they say together.
  Conditions: none.
-/
import Derived.Test.YtkmbeogmgehnfaaHuP
namespace Go.Proofs.Ytkmbeogmgehnfaa.Vo
open Hu
set_option linter.unusedVariables false
set_option linter.unusedSimpArgs false

/-- a candidate. -/
structure Cd where
  off : Int
  dist : Int
  jit : Int
  str : Int
instance : Inhabited Cd := ⟨⟨0, 0, 0, 0⟩⟩
def okC (c : Cd) : Prop := (-68719476736 ≤ c.off ∧ c.off ≤ 68719476736) ∧ (0 ≤ c.dist ∧ c.dist ≤ 68719476736) ∧ (0 ≤ c.jit ∧ c.jit ≤ 68719476736) ∧ 0 ≤ c.str ∧ c.str ≤ 16
instance (c : Cd) : Decidable (okC c) := by unfold okC; infer_instance
def okL (L : List Cd) : Prop := (∀ c ∈ L, okC c) ∧ L.length ≤ 32
instance (L : List Cd) : Decidable (okL L) := by unfold okL; infer_instance
/-- its span. -/
def sp (c : Cd) : Sn := ⟨c.off - c.dist, c.off + c.dist⟩
def sps (L : List Cd) : List Sn := L.map sp
theorem sps_len (L : List Cd) : (sps L).length = L.length := List.length_map ..
/-- what is wrong with some numbers. -/
def chE (L : List Cd) (S : List Int) : Int := if okL L then (if ∀ i ∈ S, 0 ≤ i ∧ i < L.length then (if S.Nodup then 0 else 7) else 2) else 3
theorem chE_nil (L : List Cd) : chE L [] = if okL L then 0 else 3 := by
  unfold chE
  simp
/-- how many of the middles lie outside. -/
def isOut (m M : Int) (c : Cd) : Bool := decide (c.off < m) || decide (M < c.off)
def outs (L : List Cd) (m M : Int) : Nat := L.countP (isOut m M)
def Good (L : List Cd) (a : Nat) (m M : Int) : Prop := Hull (sps L) a m M ∧ outs L m M ≤ a
def IsI (L : List Cd) (m M : Int) : Prop := ∃ a, 2 * a < L.length ∧ Good L a m M ∧ ∀ b, b < a → ∀ m' M', ¬ Good L b m' M'
theorem Good.one {L : List Cd} {a : Nat} {m M m' M' : Int} (h : Good L a m M) (k : Good L a m' M') : m = m' ∧ M = M' := h.1.one k.1
theorem IsI.one {L : List Cd} {m M m' M' : Int} (h : IsI L m M) (k : IsI L m' M') : m = m' ∧ M = M' := by
  obtain ⟨a, _, h2, h3⟩ := h
  obtain ⟨b, _, k2, k3⟩ := k
  rcases Nat.lt_trichotomy a b with c | c | c
  · exact absurd h2 (k3 a c m M)
  · subst c; exact h2.one k2
  · exact absurd k2 (h3 b c m' M')
/-- the intersection, if there is one. -/
noncomputable def inV (L : List Cd) : Option (Int × Int) := by
  classical
  exact if h : ∃ p : Int × Int, IsI L p.1 p.2 then some h.choose else none
theorem inV_some {L : List Cd} {m M : Int} (h : IsI L m M) : inV L = some (m, M) := by
  unfold inV
  have e : ∃ p : Int × Int, IsI L p.1 p.2 := ⟨(m, M), h⟩
  rw [dif_pos e]
  obtain ⟨h1, h2⟩ := e.choose_spec.one h
  exact congrArg some (Prod.ext h1 h2)
theorem inV_none {L : List Cd} (h : ∀ a, 2 * a < L.length → ∀ m M, ¬ Good L a m M) : inV L = none := by
  unfold inV
  rw [dif_neg]
  rintro ⟨p, a, h1, h2, _⟩
  exact h a h1 _ _ h2
theorem inV_is {L : List Cd} {m M : Int} (h : inV L = some (m, M)) : IsI L m M := by
  unfold inV at h
  split at h
  · rename_i e
    simp only [Option.some.injEq] at h
    have := e.choose_spec
    rw [h] at this
    exact this
  · cases h
/-- does a span meet m to M? -/
def mt (m M : Int) (c : Cd) : Bool := decide (c.off - c.dist ≤ M) && decide (m ≤ c.off + c.dist)
/-- the truechimers among the first k. -/
def tru (L : List Cd) (m M : Int) (k : Nat) : List Nat := (List.range k).filter fun i => mt m M (L.getD i default)
theorem tru_yes {L : List Cd} {m M : Int} {k : Nat} {c : Cd} (h : L[k]? = some c) (q : mt m M c = true) : tru L m M (k + 1) = tru L m M k ++ [k] := by
  unfold tru
  rw [List.range_succ, List.filter_append, List.filter_cons_of_pos (by rw [List.getD_eq_getElem?_getD, h]; exact q)]
  rfl
theorem tru_no {L : List Cd} {m M : Int} {k : Nat} {c : Cd} (h : L[k]? = some c) (q : mt m M c = false) : tru L m M (k + 1) = tru L m M k := by
  unfold tru
  rw [List.range_succ, List.filter_append, List.filter_cons_of_neg (by rw [List.getD_eq_getElem?_getD, h]; simpa using q), List.filter_nil, List.append_nil]
theorem tru_len (L : List Cd) (m M : Int) (k : Nat) : (tru L m M k).length ≤ k := by
  unfold tru
  exact Nat.le_trans (List.length_filter_le _ _) (by rw [List.length_range]; exact Nat.le_refl _)
theorem tru_lt {L : List Cd} {m M : Int} {k i : Nat} (h : i ∈ tru L m M k) : i < k := by
  unfold tru at h
  exact List.mem_range.1 (List.mem_filter.1 h).1
theorem tru_nodup (L : List Cd) (m M : Int) (k : Nat) : (tru L m M k).Nodup := List.Nodup.sublist List.filter_sublist List.nodup_range
theorem tru_mem {L : List Cd} {m M : Int} {k i : Nat} {c : Cd} (hi : i < k) (h : L[i]? = some c) (q : mt m M c = true) : i ∈ tru L m M k := by
  unfold tru
  exact List.mem_filter.2 ⟨List.mem_range.2 hi, by rw [List.getD_eq_getElem?_getD, h]; exact q⟩
/-- numbers as int64. -/
def ints (l : List Nat) : List Int := l.map fun (n : Nat) => (n : Int)
theorem ints_len (l : List Nat) : (ints l).length = l.length := List.length_map ..
theorem ints_app (l k : List Nat) : ints (l ++ k) = ints l ++ ints k := List.map_append ..
theorem ints_at {l : List Nat} {j n : Nat} (h : l[j]? = some n) : (ints l)[j]? = some (n : Int) := by unfold ints; rw [List.getElem?_map, h]; rfl
theorem ints_mem {l : List Nat} {x : Int} : x ∈ ints l ↔ ∃ n ∈ l, (n : Int) = x := by unfold ints; exact List.mem_map
theorem ints_inj {l k : List Nat} (h : ints l = ints k) : l = k := by
  unfold ints at h
  exact (List.map_inj_right (fun a b q => by omega)).1 h
theorem ints_nodup {l : List Nat} : (ints l).Nodup ↔ l.Nodup := by
  unfold ints List.Nodup
  rw [List.pairwise_map]
  exact ⟨fun h => h.imp fun q e => q (by omega), fun h => h.imp fun q e => q (by omega)⟩
/-- numbers that are right come from such. -/
theorem chE_ok {L : List Cd} {S : List Int} (h : chE L S = 0) : okL L ∧ ∃ N : List Nat, S = ints N ∧ (∀ n ∈ N, n < L.length) ∧ N.Nodup := by
  unfold chE at h
  split at h
  · rename_i ok
    split at h
    · rename_i hr
      split at h
      · rename_i hn
        have e : S = ints (S.map Int.toNat) := by
          unfold ints
          rw [List.map_map]
          conv => lhs; rw [← List.map_id S]
          exact List.map_congr_left fun i hi => by have := (hr i hi).1; simp; omega
        refine ⟨ok, S.map Int.toNat, e, fun n hn' => ?_, ?_⟩
        · obtain ⟨i, hi, rfl⟩ := List.mem_map.1 hn'
          have := hr i hi
          omega
        · rw [e] at hn
          exact ints_nodup.1 hn
      · cases h
    · cases h
  · cases h
theorem chE_ints {L : List Cd} {N : List Nat} (ok : okL L) (h : ∀ n ∈ N, n < L.length) (hn : N.Nodup) : chE L (ints N) = 0 := by
  unfold chE
  rw [if_pos ok, if_pos (fun i hi => by obtain ⟨n, hn, rfl⟩ := ints_mem.1 hi; have := h n hn; omega), if_pos (ints_nodup.2 hn)]
theorem nodup_le : ∀ {m : Nat} {N : List Nat}, (∀ n ∈ N, n < m) → N.Nodup → N.length ≤ m
  | 0, N, h, _ => by
    cases N with
    | nil => simp
    | cons x r => exact absurd (h x (List.mem_cons_self ..)) (by omega)
  | m + 1, N, h, hn => by
    by_cases c : m ∈ N
    · have q := nodup_le (m := m) (N := N.erase m) (fun n hn' => by
        have := (hn.mem_erase_iff).1 hn'
        have := h n this.2
        omega) (hn.erase m)
      rw [List.length_erase_of_mem c] at q
      omega
    · have q := nodup_le (m := m) (N := N) (fun n hn' => by
        have := h n hn'
        have : n ≠ m := fun e => c (e ▸ hn')
        omega) hn
      omega
/-- how far two times are apart. -/
def far (a b : Int) : Int := if b < a then a - b else b - a
theorem far_nn (a b : Int) : 0 ≤ far a b := by unfold far; split <;> omega
theorem far_mv (a b d : Int) : far (a + d) (b + d) = far a b := by unfold far; split <;> split <;> omega
/-- what candidates are sorted by. -/
def key (c : Cd) : Int := c.str * 1572864 + c.dist
def cd (L : List Cd) (i : Nat) : Cd := L.getD i default
theorem cd_at {L : List Cd} {i : Nat} (h : i < L.length) : L[i]? = some (cd L i) := by
  unfold cd
  rw [List.getD_eq_getElem?_getD, List.getElem?_eq_getElem h]
  rfl
theorem cd_ok {L : List Cd} (ok : okL L) {i : Nat} (h : i < L.length) : okC (cd L i) := ok.1 _ (List.mem_of_getElem? (cd_at h))
def Ah (L : List Cd) (i k : Nat) : Prop := key (cd L i) < key (cd L k) ∨ (key (cd L i) = key (cd L k) ∧ i < k)
instance (L : List Cd) (i k : Nat) : Decidable (Ah L i k) := by unfold Ah; infer_instance
theorem Ah.tr {L : List Cd} {i j k : Nat} (h : Ah L i j) (q : Ah L j k) : Ah L i k := by unfold Ah at *; omega
theorem Ah.irr {L : List Cd} {i : Nat} (h : Ah L i i) : False := by unfold Ah at h; omega
theorem Ah.tot {L : List Cd} {i k : Nat} (h : ¬ Ah L i k) (n : i ≠ k) : Ah L k i := by unfold Ah at *; omega
/-- sorted. -/
def Srt (L : List Cd) (N T : List Nat) : Prop := T.Perm N ∧ T.Pairwise (Ah L)
theorem pw_one {L : List Cd} : ∀ {T K : List Nat}, T.Perm K → T.Pairwise (Ah L) → K.Pairwise (Ah L) → T = K
  | [], K, h, _, _ => (List.nil_perm.1 h).symm
  | x :: T, K, h, hT, hK => by
    cases K with
    | nil => exact List.perm_nil.1 h
    | cons y K =>
      rw [List.pairwise_cons] at hT hK
      have e : x = y := by
        have hx : x ∈ y :: K := h.mem_iff.1 (List.mem_cons_self ..)
        have hy : y ∈ x :: T := h.mem_iff.2 (List.mem_cons_self ..)
        rcases List.mem_cons.1 hx with rfl | hx
        · rfl
        · rcases List.mem_cons.1 hy with rfl | hy
          · rfl
          · exact absurd ((hT.1 y hy).tr (hK.1 x hx)) (fun q => q.irr)
      subst e
      rw [pw_one (List.perm_cons _ |>.1 h) hT.2 hK.2]
theorem Srt.one {L : List Cd} {N T K : List Nat} (h : Srt L N T) (k : Srt L N K) : T = K := pw_one (h.1.trans k.1.symm) h.2 k.2
/-- one more, put where it belongs. -/
theorem srt_ins {L : List Cd} {N A B : List Nat} {x : Nat} (h : Srt L N (A ++ B)) (hx : x ∉ N) (hA : A = [] ∨ ∃ y, A.getLast? = some y ∧ ¬ Ah L x y) (hB : ∀ b ∈ B, Ah L x b) : Srt L (N ++ [x]) (A ++ x :: B) := by
  obtain ⟨hp, hs⟩ := h
  rw [List.pairwise_append] at hs
  obtain ⟨sA, sB, sAB⟩ := hs
  refine ⟨?_, ?_⟩
  · exact (List.perm_middle.trans ((List.Perm.cons x hp).trans (List.perm_append_singleton x N).symm))
  · have hAx : ∀ a ∈ A, Ah L a x := by
      rcases hA with rfl | ⟨y, hy, hn⟩
      · intro a ha; cases ha
      · have ym : y ∈ A := List.mem_of_getLast? hy
        have yx : Ah L y x := Ah.tot hn (fun e => hx (hp.mem_iff.1 (List.mem_append_left _ (e ▸ ym))))
        intro a ha
        obtain ⟨l, rfl⟩ := List.getLast?_eq_some_iff.1 hy
        rcases List.mem_append.1 ha with q | q
        · exact ((List.pairwise_append.1 sA).2.2 a q y (by simp)).tr yx
        · rw [List.mem_singleton.1 q]; exact yx
    rw [List.pairwise_append, List.pairwise_cons]
    refine ⟨sA, ⟨hB, sB⟩, fun a ha b hb => ?_⟩
    rcases List.mem_cons.1 hb with rfl | hb
    · exact hAx a ha
    · exact sAB a ha b hb
end Go.Proofs.Ytkmbeogmgehnfaa.Vo
