/-
  Leap seconds in numbers: from where on a change's offset is taken off, its leap second with it; the even times of a UTC time.
  Conditions: none.
-/
import Derived.Test.YtoecgabdjpgleaaLa
namespace Go.Proofs.Ytoecgabdjpgleaa.Lp
open Cv
set_option linter.unusedVariables false

/-- from here on the offset of change i, a later one, is taken off. -/
def bg (a o : Nat → Int) (i : Nat) : Int := if o (i - 1) < o i then a i + o i * 1048576 - 1048576 else a i + o i * 1048576
theorem bg_le (a o : Nat → Int) (i : Nat) : bg a o i ≤ pt a o i ∧ pt a o i - 1048576 ≤ bg a o i := by
  unfold bg pt
  split <;> omega
theorem Rt.n_le {n : Nat} {a o : Nat → Int} (h : Rt n a o) : n ≤ 4135 := by
  refine Classical.byContradiction fun c => ?_
  have key : ∀ k : Nat, k < n → (k : Int) * 2536715059200 ≤ a k := by
    intro k
    induction k with
    | zero => intro hk; have := (h.mo 0 hk).1; omega
    | succ k ih => intro hk; have := ih (by omega); have := h.a_lt (i := k) (j := k + 1) (by omega) hk; omega
  have := key 4135 (by omega)
  have := h.le 4135 (by omega)
  omega
theorem Rt.bg_lt {n : Nat} {a o : Nat → Int} (h : Rt n a o) {i j : Nat} (hij : i < j) (hj : j < n) : pt a o i + 1048576 * 200 ≤ bg a o j := by
  have p := h.pt_lt hij hj
  have q := bg_le a o j
  omega
theorem Rt.bg_bg {n : Nat} {a o : Nat → Int} (h : Rt n a o) {i j : Nat} (hij : i < j) (hj : j < n) : bg a o i < bg a o j := by
  have p := h.bg_lt hij hj
  have q := bg_le a o i
  omega
/-- what change holds at u. -/
def holds (n : Nat) (a o : Nat → Int) (u : Int) (j : Nat) : Prop := j < n ∧ (j = 0 ∨ bg a o j ≤ u) ∧ (j + 1 < n → u < bg a o (j + 1))
theorem Rt.holds_one {n : Nat} {a o : Nat → Int} (h : Rt n a o) {u : Int} {i j : Nat} (hi : holds n a o u i) (hj : holds n a o u j) : i = j := by
  obtain ⟨i1, i2, i3⟩ := hi
  obtain ⟨j1, j2, j3⟩ := hj
  rcases Nat.lt_trichotomy i j with c | c | c
  · have p := i3 (by omega)
    have q := j2.resolve_left (by omega)
    rcases Nat.lt_or_ge (i + 1) j with e | e
    · have := h.bg_bg e j1
      omega
    · have : i + 1 = j := by omega
      subst this
      omega
  · exact c
  · have p := j3 (by omega)
    have q := i2.resolve_left (by omega)
    rcases Nat.lt_or_ge (j + 1) i with e | e
    · have := h.bg_bg e i1
      omega
    · have : j + 1 = i := by omega
      subst this
      omega
theorem Rt.holds_ex {n : Nat} {a o : Nat → Int} (h : Rt n a o) (u : Int) : ∃ j, holds n a o u j := by
  have key : ∀ k, k < n → (∀ i, k < i → i < n → u < bg a o i) → ∃ j, holds n a o u j := by
    intro k
    induction k with
    | zero => intro hk hb; exact ⟨0, hk, .inl rfl, fun e => hb 1 (by omega) e⟩
    | succ k ih =>
      intro hk hb
      by_cases c : bg a o (k + 1) ≤ u
      · exact ⟨k + 1, hk, .inr c, fun e => hb _ (by omega) e⟩
      · exact ih (by omega) fun i hi hn => by
          by_cases e : i = k + 1
          · subst e; omega
          · exact hb i (by omega) hn
  exact key (n - 1) (by have := h.pos; omega) fun i hi hn => by omega
/-- its UTC time, and whether it is in a leap second. -/
theorem Rt.by_holds {n : Nat} {a o : Nat → Int} (h : Rt n a o) {u : Int} {j : Nat} (hj : holds n a o u j) :
    ut n a o u = u - o j * 1048576 ∧ inl n a o u = decide (0 < j ∧ u - o j * 1048576 < a j) := by
  obtain ⟨j1, j2, j3⟩ := hj
  by_cases c : j = 0 ∨ pt a o j ≤ u
  · have hx : ix n a o u = j := h.ix_eq j1 c fun hn => by have := j3 hn; have := bg_le a o (j + 1); omega
    have hn : inl n a o u = false := by
      unfold inl
      rw [hx]
      refine decide_eq_false fun hh => ?_
      have := j3 hh.1
      unfold bg at this
      rw [if_pos (by rw [show j + 1 - 1 = j from rfl]; omega)] at this
      have := hh.2.2
      unfold pt at this
      omega
    refine ⟨?_, ?_⟩
    · unfold ut ofs
      rw [hn, hx]
      rfl
    · rw [hn]
      symm
      refine decide_eq_false fun hh => ?_
      have := c.resolve_left (by omega)
      unfold pt at this
      omega
  · obtain ⟨k, rfl⟩ : ∃ k, j = k + 1 := ⟨j - 1, by omega⟩
    have s := j2.resolve_left (by omega)
    have e : o (k + 1) = o k + 1 := by
      have := h.st k j1
      refine this.resolve_right fun q => ?_
      unfold bg at s
      rw [if_neg (by rw [show k + 1 - 1 = k from rfl]; omega)] at s
      unfold pt at c
      omega
    have s2 : pt a o (k + 1) - 1048576 ≤ u := by have := bg_le a o (k + 1); omega
    have := h.inl_at j1 e s2 (by omega)
    refine ⟨?_, ?_⟩
    · unfold ut
      rw [this.2.2]
    · rw [this.2.1]
      symm
      refine decide_eq_true ⟨by omega, ?_⟩
      unfold pt at c
      omega
/-- behind a change no UTC time is below its At. -/
theorem Rt.ut_ge {n : Nat} {a o : Nat → Int} (h : Rt n a o) {u : Int} {j : Nat} (h0 : 0 < j) (hj : j < n) (hp : pt a o j ≤ u) : a j ≤ ut n a o u := by
  obtain ⟨k, hk⟩ := h.holds_ex u
  obtain ⟨e, _⟩ := h.by_holds hk
  obtain ⟨k1, k2, k3⟩ := hk
  rw [e]
  rcases Nat.lt_trichotomy k j with c | c | c
  · exfalso
    have p := k3 (by omega)
    rcases Nat.lt_or_ge (k + 1) j with e | e
    · have := h.bg_bg e hj
      have := bg_le a o j
      omega
    · have : k + 1 = j := by omega
      subst this
      have := bg_le a o (k + 1)
      omega
  · subst c
    unfold pt at hp
    omega
  · have s := k2.resolve_left (by omega)
    have q := h.a_lt c k1
    have r := (bg_le a o k).2
    unfold pt at r
    omega

/-- what Even takes of the first k changes. -/
def evs (n : Nat) (a o : Nat → Int) (t : Int) : Nat → List Int
  | 0 => []
  | k + 1 => if (k = 0 ∨ bg a o k ≤ t + o k * 1048576) ∧ (k + 1 < n → t + o k * 1048576 < bg a o (k + 1)) then evs n a o t k ++ [t + o k * 1048576] else evs n a o t k
theorem evs_len (n : Nat) (a o : Nat → Int) (t : Int) : ∀ k, (evs n a o t k).length ≤ k
  | 0 => Nat.le_refl 0
  | k + 1 => by
    have := evs_len n a o t k
    unfold evs
    split
    · simp; omega
    · omega
theorem evs_mem {n : Nat} {a o : Nat → Int} {t x : Int} : ∀ {k : Nat}, k ≤ n → (x ∈ evs n a o t k ↔ ∃ j, j < k ∧ x = t + o j * 1048576 ∧ holds n a o x j)
  | 0, _ => by simp [evs]
  | k + 1, hk => by
    have ih := evs_mem (n := n) (a := a) (o := o) (t := t) (x := x) (k := k) (by omega)
    unfold evs
    split
    · rename_i c
      rw [List.mem_append, ih]
      constructor
      · rintro (⟨j, h1, h2⟩ | h)
        · exact ⟨j, by omega, h2⟩
        · simp only [List.mem_singleton] at h
          exact ⟨k, by omega, h, by omega, by rw [h]; exact c.1, by rw [h]; exact c.2⟩
      · rintro ⟨j, h1, h2, h3⟩
        by_cases e : j = k
        · right; subst e; simp [h2]
        · left; exact ⟨j, by omega, h2, h3⟩
    · rename_i c
      rw [ih]
      constructor
      · rintro ⟨j, h1, h2⟩
        exact ⟨j, by omega, h2⟩
      · rintro ⟨j, h1, h2, h3⟩
        refine ⟨j, ?_, h2, h3⟩
        refine Classical.byContradiction fun q => ?_
        have : j = k := by omega
        subst this
        obtain ⟨_, b1, b2⟩ := h3
        rw [h2] at b1 b2
        exact c ⟨b1, b2⟩
theorem Rt.evs_up {n : Nat} {a o : Nat → Int} (h : Rt n a o) (t : Int) : ∀ k, k ≤ n → (evs n a o t k).Pairwise (· < ·)
  | 0, _ => List.Pairwise.nil
  | k + 1, hk => by
    have ih := h.evs_up t k (by omega)
    unfold evs
    split
    · rename_i c
      rw [List.pairwise_append]
      refine ⟨ih, by simp, fun x hx y hy => ?_⟩
      simp only [List.mem_singleton] at hy
      subst hy
      obtain ⟨j, h1, h2, h3, h4, h5⟩ := (evs_mem (by omega)).1 hx
      have p := h5 (by omega)
      have q := c.1.resolve_left (by omega)
      rcases Nat.lt_or_ge (j + 1) k with e | e
      · have := h.bg_bg e (by omega)
        omega
      · have : j + 1 = k := by omega
        subst this
        omega
    · exact ih
/-- what Even says of the UTC time of u. -/
structure Ev (n : Nat) (a o : Nat → Int) (t : Int) (l : List Int) : Prop where
  up : l.Pairwise (· < ·)
  at_ : ∀ x ∈ l, ut n a o x = t ∧ t ≤ x ∧ x ≤ t + 209715200
  all : ∀ x, ut n a o x = t → x ∈ l
  len : l.length ≤ n
theorem Rt.ev {n : Nat} {a o : Nat → Int} (h : Rt n a o) (t : Int) : Ev n a o t (evs n a o t n) where
  up := h.evs_up t n (Nat.le_refl _)
  at_ x hx := by
    obtain ⟨j, h1, h2, h3⟩ := (evs_mem (Nat.le_refl _)).1 hx
    have := (h.by_holds h3).1
    have := h.ob j h1
    omega
  all x hx := by
    obtain ⟨j, hj⟩ := h.holds_ex x
    have := (h.by_holds hj).1
    exact (evs_mem (Nat.le_refl _)).2 ⟨j, hj.1, by omega, hj⟩
  len := evs_len n a o t n
/-- .. none of them is beyond what calls take, if u is not. -/
theorem Rt.ev_top {n : Nat} {a o : Nat → Int} (h : Rt n a o) {u x : Int} (hu : u ≤ 288230376151711744) (e : ut n a o x = ut n a o u) : x ≤ 288230376151711744 := by
  obtain ⟨j, hj⟩ := h.holds_ex x
  obtain ⟨k, hk⟩ := h.holds_ex u
  have ej := (h.by_holds hj).1
  have ek := (h.by_holds hk).1
  by_cases c : j = k
  · subst c
    omega
  · refine Classical.byContradiction fun q => ?_
    have oj := h.ob j hj.1
    have ok := h.ob k hk.1
    have b := h.le (n - 1) (by have := h.pos; omega)
    have ob := h.ob (n - 1) (by have := h.pos; omega)
    have last : ∀ y i, holds n a o y i → 144115188075855872 ≤ y → i = n - 1 := fun y i hi hy => by
      have : holds n a o y (n - 1) := ⟨by have := h.pos; omega, by
        by_cases z : n - 1 = 0
        · exact .inl z
        · right
          have := (bg_le a o (n - 1)).1
          unfold pt at this
          omega, fun hh => by omega⟩
      exact h.holds_one hi this
    have := last x j hj (by omega)
    have := last u k hk (by omega)
    omega
end Go.Proofs.Ytoecgabdjpgleaa.Lp
