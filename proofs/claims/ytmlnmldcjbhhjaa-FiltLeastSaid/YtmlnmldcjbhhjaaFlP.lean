/-
  Samples: what is right, how a sample ages, its distance; the best of a list; sums; all as plain arithmetic.
  Conditions: none.
-/
import Derived.Test.YtmlnmldcjbhhjaaFxP
namespace Go.Proofs.Ytmlnmldcjbhhjaa.Fl
set_option linter.unusedVariables false
set_option linter.unusedSimpArgs false

/-- a sample. -/
structure Sm where
  off : Int
  del : Int
  dis : Int
  at' : Int
instance : Inhabited Sm := ⟨⟨0, 0, 0, 0⟩⟩
def sm0 : Sm := ⟨0, 0, 0, 0⟩
/-- its values. -/
def svs (s : Sm) : List Value := [.int .i64 s.off, .int .i64 s.del, .int .i64 s.dis, .int .i64 s.at']
theorem svs_len (s : Sm) : (svs s).length = 4 := rfl
/-- its numbers are of their kind. -/
def i64S (s : Sm) : Prop := (-9223372036854775808 ≤ s.off ∧ s.off ≤ 9223372036854775807) ∧ (-9223372036854775808 ≤ s.del ∧ s.del ≤ 9223372036854775807) ∧ (-9223372036854775808 ≤ s.dis ∧ s.dis ≤ 9223372036854775807) ∧ (-9223372036854775808 ≤ s.at' ∧ s.at' ≤ 9223372036854775807)
/-- it is right. -/
def okSm (s : Sm) : Prop := (-68719476736 ≤ s.off ∧ s.off ≤ 68719476736) ∧ (0 ≤ s.del ∧ s.del ≤ 68719476736) ∧ (0 ≤ s.dis ∧ s.dis ≤ 68719476736) ∧ (0 ≤ s.at' ∧ s.at' ≤ 288230376151711744)
instance (s : Sm) : Decidable (okSm s) := by unfold okSm; infer_instance
/-- d counts at p millionths, rounded up, at most 2^40. -/
def agE (d p : Int) : Int := min ((d * p + 999999) / 1000000) 1099511627776
theorem agE_range {d p : Int} (hd : 0 ≤ d) (hp : 0 ≤ p) : 0 ≤ agE d p ∧ agE d p ≤ 1099511627776 := by
  have : 0 ≤ d * p := Int.mul_nonneg hd hp
  unfold agE
  omega
theorem prt_ag {d p : Int} (hd : 0 ≤ d) (hd' : d ≤ 288230376151711744) (hp : 0 ≤ p) (hp' : p ≤ 1000) : Fx.prt d p 1000000 true = (d * p + 999999) / 1000000 := by
  obtain ⟨n, rfl⟩ := Int.eq_ofNat_of_zero_le hd
  obtain ⟨m, rfl⟩ := Int.eq_ofNat_of_zero_le hp
  have e := Fx.prt_pos n m 1000000 true
  have hb : n * m ≤ 288230376151711744 * 1000 := Nat.mul_le_mul (by omega) (by omega)
  show Fx.prt (n : Int) (m : Int) ((1000000 : Nat) : Int) true = _
  rw [e]
  have hc : ((n : Int) * (m : Int)) = ((n * m : Nat) : Int) := by simp
  show ((Fx.szp (n * m) 1000000 true : Nat) : Int) = ((n : Int) * (m : Int) + 999999) / 1000000
  rw [hc]
  generalize n * m = x at *
  have h1 : x / 1000000 < 2305843009213693952 := by omega
  by_cases c : x % 1000000 = 0
  · rw [Fx.szp_even _ _ _ h1 c]; omega
  · rw [Fx.szp_up _ _ h1 c]; omega
/-- the document's way: whole millions, then the rest. -/
theorem ag_parts {d p : Int} (hd : 0 ≤ d) (hp : 0 ≤ p) : d / 1000000 * p + (d % 1000000 * p + 999999) / 1000000 = (d * p + 999999) / 1000000 := by
  have e : d * p = 1000000 * (d / 1000000 * p) + d % 1000000 * p := by
    have := Int.mul_ediv_add_emod d 1000000
    conv => lhs; rw [← this]
    rw [Int.add_mul, Int.mul_assoc]
  rw [e]
  generalize d / 1000000 * p = a
  generalize d % 1000000 * p = b
  omega
theorem part_range {d p : Int} (hd : 0 ≤ d) (hd' : d ≤ 288230376151711744) (hp : 0 ≤ p) (hp' : p ≤ 1000) : 0 ≤ d / 1000000 * p ∧ d / 1000000 * p ≤ 288230376151712 * 1000 ∧ 0 ≤ d % 1000000 * p ∧ d % 1000000 * p ≤ 1000000 * 1000 := by
  have a0 : 0 ≤ d / 1000000 := by omega
  have a1 : d / 1000000 ≤ 288230376151712 := by omega
  have b0 : 0 ≤ d % 1000000 := by omega
  have b1 : d % 1000000 ≤ 1000000 := by omega
  exact ⟨Int.mul_nonneg a0 hp, Int.mul_le_mul a1 hp' hp (by omega), Int.mul_nonneg b0 hp, Int.mul_le_mul b1 hp' hp (by omega)⟩
/-- what it has aged; its distance. -/
def ag (now ppm : Int) (s : Sm) : Int := agE (now - s.at') ppm
def ds (now ppm : Int) (s : Sm) : Int := min (s.del / 2 + s.dis + ag now ppm s) 1099511627776
theorem ds_range {now ppm : Int} {s : Sm} (h : okSm s) (hn : s.at' ≤ now) (hp : 0 ≤ ppm) : 0 ≤ ds now ppm s ∧ ds now ppm s ≤ 1099511627776 := by
  have := agE_range (d := now - s.at') (p := ppm) (by omega) hp
  obtain ⟨_, h1, h2, _⟩ := h
  unfold ds ag
  omega
/-- the best of the first k + 1: of several the first. -/
def bst (now ppm : Int) (L : List Sm) : Nat → Sm
  | 0 => L.getD 0 sm0
  | k + 1 => if ds now ppm (L.getD (k + 1) sm0) < ds now ppm (bst now ppm L k) then L.getD (k + 1) sm0 else bst now ppm L k
theorem bst_mem (now ppm : Int) (L : List Sm) : ∀ k, k < L.length → bst now ppm L k ∈ L
  | 0, h => by unfold bst; rw [List.getD_eq_getElem?_getD, List.getElem?_eq_getElem h]; exact List.getElem_mem h
  | k + 1, h => by
    unfold bst
    split
    · rw [List.getD_eq_getElem?_getD, List.getElem?_eq_getElem h]; exact List.getElem_mem h
    · exact bst_mem now ppm L k (by omega)
theorem bst_le (now ppm : Int) (L : List Sm) : ∀ k j, j ≤ k → ds now ppm (bst now ppm L k) ≤ ds now ppm (L.getD j sm0)
  | 0, j, h => by
    obtain rfl : j = 0 := by omega
    exact Int.le_refl _
  | k + 1, j, h => by
    unfold bst
    by_cases c : j = k + 1
    · subst c
      split <;> omega
    · have := bst_le now ppm L k j (by omega)
      split <;> omega
/-- the best one of a list. -/
def best (now ppm : Int) (L : List Sm) : Sm := bst now ppm L (L.length - 1)
theorem best_mem {now ppm : Int} {L : List Sm} (h : 0 < L.length) : best now ppm L ∈ L := bst_mem now ppm L _ (by omega)
theorem best_le {now ppm : Int} {L : List Sm} {x : Sm} (h : x ∈ L) : ds now ppm (best now ppm L) ≤ ds now ppm x := by
  obtain ⟨j, hj, rfl⟩ := List.getElem_of_mem h
  have := bst_le now ppm L (L.length - 1) j (by omega)
  rwa [List.getD_eq_getElem?_getD, List.getElem?_eq_getElem hj] at this
/-- how far the first k are off m. -/
def far (m : Int) (L : List Sm) : Nat → Int
  | 0 => 0
  | k + 1 => far m L k + max ((L.getD k sm0).off - m) (m - (L.getD k sm0).off)
theorem far_range {m : Int} {L : List Sm} (h : ∀ s ∈ L, okSm s) (h0 : -68719476736 ≤ m) (h1 : m ≤ 68719476736) : ∀ k, k ≤ L.length → 0 ≤ far m L k ∧ far m L k ≤ 137438953472 * k
  | 0, _ => ⟨Int.le_refl _, by simp [far]⟩
  | k + 1, hk => by
    have ih := far_range h h0 h1 k (by omega)
    have q : L.getD k sm0 ∈ L := by rw [List.getD_eq_getElem?_getD, List.getElem?_eq_getElem (by omega : k < L.length)]; exact List.getElem_mem _
    obtain ⟨⟨a, b⟩, _⟩ := h _ q
    unfold far
    omega
/-- the best one adds nothing. -/
theorem far_best {m : Int} {L : List Sm} (h : ∀ s ∈ L, okSm s) (h0 : -68719476736 ≤ m) (h1 : m ≤ 68719476736) {j : Nat} (hj : j < L.length) (hm : (L.getD j sm0).off = m) : ∀ k, j < k → k ≤ L.length → far m L k ≤ 137438953472 * (k - 1 : Int)
  | 0, a, _ => by omega
  | k + 1, a, hk => by
    unfold far
    by_cases c : j = k
    · subst c
      have := (far_range h h0 h1 j (by omega)).2
      rw [hm]
      omega
    · have ih := far_best h h0 h1 hj hm k (by omega) (by omega)
      have q : L.getD k sm0 ∈ L := by rw [List.getD_eq_getElem?_getD, List.getElem?_eq_getElem (by omega : k < L.length)]; exact List.getElem_mem _
      obtain ⟨⟨a, b⟩, _⟩ := h _ q
      omega
/-- x in n parts, rounded up. -/
def upE (x n : Int) : Int := (x + n - 1) / n
theorem prt_up {x n : Int} (hx : 0 ≤ x) (hx' : x ≤ 1099511627776) (hn : 1 ≤ n) (hn' : n ≤ 8) : Fx.prt x 1 n true = upE x n := by
  obtain ⟨a, rfl⟩ := Int.eq_ofNat_of_zero_le hx
  obtain ⟨d, rfl⟩ := Int.eq_ofNat_of_zero_le (show 0 ≤ n by omega)
  have e := Fx.prt_pos a 1 d true
  show Fx.prt (a : Int) ((1 : Nat) : Int) (d : Int) true = _
  rw [e, Nat.mul_one]
  unfold upE
  have h1 : a / d < 2305843009213693952 := Nat.lt_of_le_of_lt (Nat.div_le_self _ _) (by omega)
  have hd : d = 1 ∨ d = 2 ∨ d = 3 ∨ d = 4 ∨ d = 5 ∨ d = 6 ∨ d = 7 ∨ d = 8 := by omega
  by_cases c : a % d = 0
  · rw [Fx.szp_even _ _ _ h1 c]
    rcases hd with rfl | rfl | rfl | rfl | rfl | rfl | rfl | rfl <;> omega
  · rw [Fx.szp_up _ _ h1 c]
    rcases hd with rfl | rfl | rfl | rfl | rfl | rfl | rfl | rfl <;> omega
/-- the jitter. -/
def jit (now ppm : Int) (L : List Sm) : Int := if L.length = 1 then 0 else upE (far (best now ppm L).off L L.length) (L.length - 1 : Int)
theorem jit_range {now ppm : Int} {L : List Sm} (h : ∀ s ∈ L, okSm s) (hp : 0 < L.length) (h8 : L.length ≤ 8) : 0 ≤ jit now ppm L ∧ jit now ppm L ≤ 137438953472 := by
  have q := best_mem (now := now) (ppm := ppm) hp
  obtain ⟨⟨a, b⟩, _⟩ := h _ q
  obtain ⟨j, hj, e⟩ := List.getElem_of_mem q
  have f1 := (far_range h a b L.length (Nat.le_refl _)).1
  have f2 := far_best h a b hj (by rw [List.getD_eq_getElem?_getD, List.getElem?_eq_getElem hj, Option.getD_some, e]) L.length hj (Nat.le_refl _)
  unfold jit
  split
  · omega
  · unfold upE
    generalize far (best now ppm L).off L L.length = x at *
    have hd : L.length = 2 ∨ L.length = 3 ∨ L.length = 4 ∨ L.length = 5 ∨ L.length = 6 ∨ L.length = 7 ∨ L.length = 8 := by omega
    clear e q hj
    rcases hd with e | e | e | e | e | e | e <;> rw [e] at f2 ⊢ <;> simp at f2 ⊢ <;> omega
/-- half of the first, a quarter of the second .. of the first k. -/
def wsum (D : List Int) : Nat → Int
  | 0 => 0
  | k + 1 => wsum D k + D.getD k 0 / 2 ^ (k + 1)
theorem half_pow (k : Nat) : (1099511627776 : Int) / 2 ^ (k + 1) ≤ 1099511627776 / 2 ^ k - 1099511627776 / 2 ^ (k + 1) := by
  rw [Int.pow_succ, ← Int.ediv_ediv_of_nonneg (Int.le_of_lt (Int.pow_pos (by decide)))]
  omega
theorem wsum_range {D : List Int} (h : ∀ x ∈ D, 0 ≤ x ∧ x ≤ 1099511627776) : ∀ k, 0 ≤ wsum D k ∧ wsum D k ≤ 1099511627776 - 1099511627776 / 2 ^ k
  | 0 => ⟨Int.le_refl _, by simp [wsum]⟩
  | k + 1 => by
    have ih := wsum_range h k
    have p : (0 : Int) < 2 ^ (k + 1) := Int.pow_pos (by decide)
    have q : 0 ≤ D.getD k 0 ∧ D.getD k 0 ≤ 1099511627776 := by
      by_cases c : k < D.length
      · rw [List.getD_eq_getElem?_getD, List.getElem?_eq_getElem c]
        exact h _ (List.getElem_mem c)
      · rw [List.getD_eq_getElem?_getD, List.getElem?_eq_none (by omega)]
        simp
    have q0 : 0 ≤ D.getD k 0 / 2 ^ (k + 1) := Int.ediv_nonneg q.1 (Int.le_of_lt p)
    have q1 : D.getD k 0 / 2 ^ (k + 1) ≤ 1099511627776 / 2 ^ (k + 1) := Int.ediv_le_ediv p q.2
    have q2 := half_pow k
    unfold wsum
    omega
theorem wsum_le {D : List Int} (h : ∀ x ∈ D, 0 ≤ x ∧ x ≤ 1099511627776) (k : Nat) : 0 ≤ wsum D k ∧ wsum D k ≤ 1099511627776 := by
  have := wsum_range h k
  have p : (0 : Int) ≤ 1099511627776 / 2 ^ k := Int.ediv_nonneg (by decide) (Int.le_of_lt (Int.pow_pos (by decide)))
  omega
end Go.Proofs.Ytmlnmldcjbhhjaa.Fl
