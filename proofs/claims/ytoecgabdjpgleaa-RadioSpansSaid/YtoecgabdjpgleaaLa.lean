/-
  Leap seconds in numbers: a table's changes (a i, o i), the offset at an even time, UTC times, and how they go on.
  Conditions: none.
  Leap seconds in numbers: when one is in, when one is warned of, and which even times have a UTC time.
  Conditions: none.
-/
import Derived.Test.YtoecgabdjpgleaaCvM
namespace Go.Proofs.Ytoecgabdjpgleaa.Lp
open Cv
set_option linter.unusedVariables false

/-- t begins a day that is the first of a month. -/
def mo (t : Int) : Prop := 0 ≤ t ∧ t % 90596966400 = 0 ∧ ∃ y m, isDay (t / 90596966400) y m 1
/-- first days of months are four weeks apart. -/
theorem mo_gap {s t : Int} (hs : mo s) (ht : mo t) (h : s < t) : s + 2536715059200 ≤ t := by
  obtain ⟨s0, s1, y, m, ds⟩ := hs
  obtain ⟨t0, t1, y', m', dt⟩ := ht
  obtain ⟨p, hp⟩ : ∃ p, s / 90596966400 = p := ⟨_, rfl⟩
  obtain ⟨q, hq⟩ : ∃ q, t / 90596966400 = q := ⟨_, rfl⟩
  rw [hp] at ds
  rw [hq] at dt
  have es : s = 90596966400 * p := by omega
  have et : t = 90596966400 * q := by omega
  have pq : p < q := by omega
  have far : p + 28 ≤ q := by
    refine Classical.byContradiction fun hn => ?_
    have hl := (len_bd y m).1
    obtain ⟨k1, k2⟩ := ds
    have e : isDay q y m (q - p + 1) := by
      obtain ⟨h1, h2, h3, h4, h5, h6⟩ := k1
      refine ⟨⟨h1, h2, h3, h4, by omega, by omega⟩, ?_⟩
      unfold num at *
      omega
    have := (isDay_one e dt).2.2
    obtain ⟨_, r1, r2⟩ := isDay_one e dt
    have z : num y m (q - p + 1) = q := e.2
    unfold num at *
    omega
  omega

/-- n changes: right ones. -/
structure Rt (n : Nat) (a o : Nat → Int) : Prop where
  pos : 0 < n
  mo : ∀ i, i < n → mo (a i)
  le : ∀ i, i < n → a i ≤ 10485759998951424
  ob : ∀ i, i < n → 0 ≤ o i ∧ o i ≤ 200
  up : ∀ i, i + 1 < n → a i < a (i + 1)
  st : ∀ i, i + 1 < n → o (i + 1) = o i + 1 ∨ o (i + 1) = o i - 1
/-- from here on the i-th offset holds. -/
def pt (a o : Nat → Int) (i : Nat) : Int := a i + o i * 1048576
theorem Rt.a_up {n : Nat} {a o : Nat → Int} (h : Rt n a o) {i : Nat} : ∀ k, i + (k + 1) < n → a i + 2536715059200 ≤ a (i + (k + 1))
  | 0, hk => mo_gap (h.mo i (by omega)) (h.mo (i + 1) hk) (h.up i hk)
  | k + 1, hk => by
    have p := h.a_up (i := i) k (by omega)
    have q := h.up (i + (k + 1)) hk
    rw [show i + (k + 1 + 1) = i + (k + 1) + 1 from by omega]
    omega
theorem Rt.a_lt {n : Nat} {a o : Nat → Int} (h : Rt n a o) {i j : Nat} (hij : i < j) (hj : j < n) : a i + 2536715059200 ≤ a j := by
  obtain ⟨k, rfl⟩ : ∃ k, j = i + (k + 1) := ⟨j - i - 1, by omega⟩
  exact h.a_up k hj
/-- .. they rise: four weeks less two hundred seconds at least. -/
theorem Rt.pt_lt {n : Nat} {a o : Nat → Int} (h : Rt n a o) {i j : Nat} (hij : i < j) (hj : j < n) : pt a o i + 2536505344000 ≤ pt a o j := by
  have p := h.a_lt hij hj
  have q := h.ob i (by omega)
  have r := h.ob j hj
  unfold pt
  omega

/-- the last of the changes 1 .. k that holds at u, or 0. -/
def ixF (a o : Nat → Int) (u : Int) : Nat → Nat
  | 0 => 0
  | k + 1 => if pt a o (k + 1) ≤ u then k + 1 else ixF a o u k
/-- what holds at u. -/
def ix (n : Nat) (a o : Nat → Int) (u : Int) : Nat := ixF a o u (n - 1)
theorem ixF_le (a o : Nat → Int) (u : Int) : ∀ k, ixF a o u k ≤ k
  | 0 => Nat.le_refl 0
  | k + 1 => by
    have := ixF_le a o u k
    unfold ixF
    split <;> omega
theorem ixF_at (a o : Nat → Int) (u : Int) : ∀ k, ixF a o u k = 0 ∨ pt a o (ixF a o u k) ≤ u
  | 0 => .inl rfl
  | k + 1 => by
    unfold ixF
    split
    · exact .inr ‹_›
    · exact ixF_at a o u k
theorem ixF_past (a o : Nat → Int) (u : Int) : ∀ k j, ixF a o u k < j → j ≤ k → u < pt a o j
  | 0, j, h, h' => by omega
  | k + 1, j, h, h' => by
    unfold ixF at h
    split at h
    · omega
    · by_cases e : j = k + 1
      · subst e; omega
      · exact ixF_past a o u k j h (by omega)
theorem Rt.ix_lt {n : Nat} {a o : Nat → Int} (h : Rt n a o) (u : Int) : ix n a o u < n := by
  have := ixF_le a o u (n - 1)
  have := h.pos
  unfold ix
  omega
theorem Rt.ix_at {n : Nat} {a o : Nat → Int} (h : Rt n a o) (u : Int) : ix n a o u = 0 ∨ pt a o (ix n a o u) ≤ u := ixF_at a o u (n - 1)
theorem Rt.ix_past {n : Nat} {a o : Nat → Int} (h : Rt n a o) (u : Int) {j : Nat} (hj : ix n a o u < j) (hn : j < n) : u < pt a o j := ixF_past a o u (n - 1) j hj (by omega)
/-- .. it is the one that holds, the next one doesn't. -/
theorem Rt.ix_eq {n : Nat} {a o : Nat → Int} (h : Rt n a o) {u : Int} {i : Nat} (hi : i < n) (h1 : i = 0 ∨ pt a o i ≤ u) (h2 : i + 1 < n → u < pt a o (i + 1)) : ix n a o u = i := by
  have A := h.ix_at u
  have L := h.ix_lt u
  by_cases c : ix n a o u < i
  · have := h.ix_past u c hi
    omega
  · by_cases d : i < ix n a o u
    · have q := h2 (by omega)
      rcases Nat.lt_or_ge (i + 1) (ix n a o u) with e | e
      · have := h.pt_lt e L
        omega
      · have : ix n a o u = i + 1 := by omega
        rw [this] at A
        omega
    · omega

/-- u is in a leap second. -/
def inl (n : Nat) (a o : Nat → Int) (u : Int) : Bool := decide (ix n a o u + 1 < n ∧ o (ix n a o u + 1) = o (ix n a o u) + 1 ∧ pt a o (ix n a o u + 1) - 1048576 ≤ u)
/-- .. its offset, and its UTC time. -/
def ofs (n : Nat) (a o : Nat → Int) (u : Int) : Int := if inl n a o u = true then o (ix n a o u + 1) else o (ix n a o u)
def ut (n : Nat) (a o : Nat → Int) (u : Int) : Int := u - ofs n a o u * 1048576
theorem Rt.ofs_bd {n : Nat} {a o : Nat → Int} (h : Rt n a o) (u : Int) : 0 ≤ ofs n a o u ∧ ofs n a o u ≤ 200 := by
  unfold ofs
  split
  · rename_i c
    have := of_decide_eq_true c
    exact h.ob _ this.1
  · exact h.ob _ (h.ix_lt u)
/-- .. it is one of the table's. -/
theorem Rt.ofs_mem {n : Nat} {a o : Nat → Int} (h : Rt n a o) (u : Int) : ∃ i, i < n ∧ ofs n a o u = o i := by
  unfold ofs
  split
  · rename_i c
    have := of_decide_eq_true c
    exact ⟨_, this.1, rfl⟩
  · exact ⟨_, h.ix_lt u, rfl⟩
/-- less than a second on: UTC goes on as the even time does, or stands back by a second where a leap second begins, or is a second ahead. -/
theorem Rt.step {n : Nat} {a o : Nat → Int} (h : Rt n a o) (u d : Int) (h0 : 0 ≤ d) (h1 : d < 1048576) :
    ut n a o (u + d) - ut n a o u = d ∨ (ut n a o (u + d) - ut n a o u = d - 1048576 ∧ inl n a o (u + d) = true ∧ inl n a o u = false) ∨ (ut n a o (u + d) - ut n a o u = d + 1048576 ∧ inl n a o (u + d) = false) := by
  obtain ⟨i, hi⟩ : ∃ i, ix n a o u = i := ⟨_, rfl⟩
  obtain ⟨j, hj⟩ : ∃ j, ix n a o (u + d) = j := ⟨_, rfl⟩
  have li : i < n := by rw [← hi]; exact h.ix_lt u
  have lj : j < n := by rw [← hj]; exact h.ix_lt (u + d)
  have ai : i = 0 ∨ pt a o i ≤ u := by rw [← hi]; exact h.ix_at u
  have aj : j = 0 ∨ pt a o j ≤ u + d := by rw [← hj]; exact h.ix_at (u + d)
  have ni : i + 1 < n → u < pt a o (i + 1) := fun k => h.ix_past u (by omega) k
  have nj : j + 1 < n → u + d < pt a o (j + 1) := fun k => h.ix_past (u + d) (by omega) k
  have ji : j = i ∨ j = i + 1 ∧ j < n := by
    rcases Nat.lt_trichotomy j i with c | c | c
    · exfalso
      have p := ai.resolve_left (by omega)
      have := h.ix_past (u + d) (j := i) (by omega) li
      omega
    · exact .inl c
    · right
      refine ⟨?_, lj⟩
      refine Classical.byContradiction fun hn => ?_
      have p := ni (by omega)
      have q := h.pt_lt (show i + 1 < j by omega) lj
      have := aj.resolve_left (by omega)
      omega
  have si := h.st i
  have sj := h.st j
  unfold ut ofs inl
  rw [hi, hj]
  rcases ji with rfl | ⟨rfl, _⟩
  · by_cases c : j + 1 < n
    · have k := si c
      have k1 := ni c
      have k2 := nj c
      by_cases e : o (j + 1) = o j + 1
      · by_cases e1 : pt a o (j + 1) - 1048576 ≤ u
        · have e2 : pt a o (j + 1) - 1048576 ≤ u + d := by omega
          simp only [c, e, e1, e2, and_self, decide_true, if_true]
          omega
        · by_cases e2 : pt a o (j + 1) - 1048576 ≤ u + d
          · have A : decide (j + 1 < n ∧ o (j + 1) = o j + 1 ∧ pt a o (j + 1) - 1048576 ≤ u + d) = true := decide_eq_true ⟨c, e, e2⟩
            have B : decide (j + 1 < n ∧ o (j + 1) = o j + 1 ∧ pt a o (j + 1) - 1048576 ≤ u) = false := decide_eq_false fun hh => e1 hh.2.2
            rw [A, B]
            refine .inr (.inl ⟨?_, rfl, rfl⟩)
            simp only [if_true, Bool.false_eq_true, if_false]
            omega
          · simp only [c, e, e1, e2, and_false, decide_false, Bool.false_eq_true, if_false]
            omega
      · simp only [e, false_and, and_false, decide_false, Bool.false_eq_true, if_false]
        omega
    · simp only [c, false_and, decide_false, Bool.false_eq_true, if_false]
      omega
  · have k := si (by omega)
    have k1 := ni (by omega)
    have k2 := aj.resolve_left (by omega)
    have far : i + 1 + 1 < n → ¬ pt a o (i + 1 + 1) - 1048576 ≤ u + d := fun c => by
      have := h.pt_lt (show i + 1 < i + 1 + 1 by omega) c
      omega
    have no : ¬ (i + 1 + 1 < n ∧ o (i + 1 + 1) = o (i + 1) + 1 ∧ pt a o (i + 1 + 1) - 1048576 ≤ u + d) := fun hh => far hh.1 hh.2.2
    rw [decide_eq_false no]
    by_cases e : o (i + 1) = o i + 1
    · have e1 : pt a o (i + 1) - 1048576 ≤ u := by omega
      simp only [lj, e, e1, and_self, decide_true, if_true, Bool.false_eq_true, if_false]
      omega
    · have B : decide (i + 1 < n ∧ o (i + 1) = o i + 1 ∧ pt a o (i + 1) - 1048576 ≤ u) = false := decide_eq_false fun hh => e hh.2.1
      rw [B]
      refine .inr (.inr ⟨?_, rfl⟩)
      simp only [Bool.false_eq_true, if_false]
      omega
end Go.Proofs.Ytoecgabdjpgleaa.Lp
namespace Go.Proofs.Ytoecgabdjpgleaa.Lp
open Cv
set_option linter.unusedVariables false

/-- the j-th change's leap second: u is in it, and then no other says otherwise. -/
theorem Rt.inl_at {n : Nat} {a o : Nat → Int} (h : Rt n a o) {u : Int} {j : Nat} (hj : j + 1 < n) (e : o (j + 1) = o j + 1) (h1 : pt a o (j + 1) - 1048576 ≤ u) (h2 : u < pt a o (j + 1)) :
    ix n a o u = j ∧ inl n a o u = true ∧ ofs n a o u = o (j + 1) := by
  have hx : ix n a o u = j := h.ix_eq (by omega) (.inr (by have := h.pt_lt (show j < j + 1 by omega) hj; omega)) fun _ => h2
  have hi : inl n a o u = true := by
    unfold inl
    rw [hx]
    exact decide_eq_true ⟨hj, e, h1⟩
  refine ⟨hx, hi, ?_⟩
  unfold ofs
  rw [if_pos hi, hx]
theorem Rt.inl_no {n : Nat} {a o : Nat → Int} (h : Rt n a o) {u : Int} (k : ∀ j, j + 1 < n → ¬ (o (j + 1) = o j + 1 ∧ pt a o (j + 1) - 1048576 ≤ u ∧ u < pt a o (j + 1))) :
    inl n a o u = false ∧ ofs n a o u = o (ix n a o u) := by
  have hi : inl n a o u = false := by
    refine decide_eq_false fun hh => ?_
    exact k _ hh.1 ⟨hh.2.1, hh.2.2, h.ix_past u (by omega) hh.1⟩
  refine ⟨hi, ?_⟩
  unfold ofs
  rw [hi]
  rfl
/-- .. it is in one, just if some change's it is. -/
theorem Rt.inl_iff {n : Nat} {a o : Nat → Int} (h : Rt n a o) (u : Int) : inl n a o u = true ↔ ∃ j, j + 1 < n ∧ o (j + 1) = o j + 1 ∧ pt a o (j + 1) - 1048576 ≤ u ∧ u < pt a o (j + 1) := by
  constructor
  · intro hi
    have := of_decide_eq_true hi
    exact ⟨_, this.1, this.2.1, this.2.2, h.ix_past u (by omega) this.1⟩
  · rintro ⟨j, h1, h2, h3, h4⟩
    exact (h.inl_at h1 h2 h3 h4).2.1
theorem ixF_step (a o : Nat → Int) (u : Int) (k : Nat) : o (ixF a o u (k + 1)) = if pt a o (k + 1) ≤ u then o (k + 1) else o (ixF a o u k) := by
  rw [ixF]
  split <;> rfl
/-- where a change has come, UTC is its At. -/
theorem Rt.ut_pt {n : Nat} {a o : Nat → Int} (h : Rt n a o) {i : Nat} (hi : i < n) (h0 : 0 < i) : ut n a o (pt a o i) = a i := by
  have hx : ix n a o (pt a o i) = i := h.ix_eq hi (.inr (Int.le_refl _)) fun hn => by have := h.pt_lt (show i < i + 1 by omega) hn; omega
  have hn : inl n a o (pt a o i) = false := by
    unfold inl
    rw [hx]
    refine decide_eq_false fun hh => ?_
    have := h.pt_lt (show i < i + 1 by omega) hh.1
    omega
  unfold ut ofs
  rw [hn, hx]
  simp only [Bool.false_eq_true, if_false]
  unfold pt
  omega

/-- u is in the day ahead of the change j. -/
def wat (n : Nat) (a o : Nat → Int) (u : Int) (j : Nat) : Prop := 0 < j ∧ j < n ∧ u < pt a o j ∧ ut n a o u < a j ∧ a j - 90596966400 ≤ ut n a o u
theorem Rt.wat_one {n : Nat} {a o : Nat → Int} (h : Rt n a o) {u : Int} {i j : Nat} (hi : wat n a o u i) (hj : wat n a o u j) : i = j := by
  obtain ⟨i0, i1, i2, i3, i4⟩ := hi
  obtain ⟨j0, j1, j2, j3, j4⟩ := hj
  rcases Nat.lt_trichotomy i j with c | c | c
  · have := h.a_lt c j1
    omega
  · exact c
  · have := h.a_lt c i1
    omega
/-- what is warned of. -/
def WV (n : Nat) (a o : Nat → Int) (u v : Int) : Prop := (v = 0 ∧ ∀ j, ¬ wat n a o u j) ∨ ∃ j, wat n a o u j ∧ v = if o (j - 1) < o j then 1 else 2
theorem Rt.WV_one {n : Nat} {a o : Nat → Int} (h : Rt n a o) {u v w : Int} (hv : WV n a o u v) (hw : WV n a o u w) : v = w := by
  rcases hv with ⟨e, hv⟩ | ⟨i, hi, e⟩ <;> rcases hw with ⟨f, hw⟩ | ⟨j, hj, f⟩
  · rw [e, f]
  · exact absurd hj (hv j)
  · exact absurd hi (hw i)
  · rw [h.wat_one hi hj] at e
    rw [e, f]
/-- the day ahead of a change, the leap second with it. -/
theorem Rt.wat_day {n : Nat} {a o : Nat → Int} (h : Rt n a o) {i : Nat} (hi : i + 1 < n) {d : Int} (h0 : 0 ≤ d) (h1 : d < 90595917824) : wat n a o (pt a o (i + 1) - 1 - d) (i + 1) ∧ ut n a o (pt a o (i + 1) - 1 - d) < a (i + 1) := by
  have g := h.pt_lt (show i < i + 1 by omega) hi
  have hx : ix n a o (pt a o (i + 1) - 1 - d) = i := h.ix_eq (by omega) (.inr (by omega)) fun _ => by omega
  have st := h.st i hi
  have e : pt a o (i + 1) = a (i + 1) + o (i + 1) * 1048576 := rfl
  have key : ut n a o (pt a o (i + 1) - 1 - d) < a (i + 1) ∧ a (i + 1) - 90596966400 ≤ ut n a o (pt a o (i + 1) - 1 - d) := by
    unfold ut ofs inl
    rw [hx]
    by_cases c : o (i + 1) = o i + 1
    · by_cases c2 : d < 1048576
      · have A : decide (i + 1 < n ∧ o (i + 1) = o i + 1 ∧ pt a o (i + 1) - 1048576 ≤ pt a o (i + 1) - 1 - d) = true := decide_eq_true ⟨hi, c, by omega⟩
        rw [A]
        simp only [if_true]
        omega
      · have A : decide (i + 1 < n ∧ o (i + 1) = o i + 1 ∧ pt a o (i + 1) - 1048576 ≤ pt a o (i + 1) - 1 - d) = false := decide_eq_false fun hh => by omega
        rw [A]
        simp only [Bool.false_eq_true, if_false]
        omega
    · have A : decide (i + 1 < n ∧ o (i + 1) = o i + 1 ∧ pt a o (i + 1) - 1048576 ≤ pt a o (i + 1) - 1 - d) = false := decide_eq_false fun hh => c hh.2.1
      rw [A]
      simp only [Bool.false_eq_true, if_false]
      omega
  exact ⟨⟨by omega, hi, by omega, key.1, key.2⟩, key.1⟩
/-- behind it, none is warned of. -/
theorem Rt.wat_behind {n : Nat} {a o : Nat → Int} (h : Rt n a o) {i : Nat} (hi : i < n) (h0 : 0 < i) (j : Nat) : ¬ wat n a o (pt a o i) j := by
  rintro ⟨j0, j1, j2, j3, j4⟩
  rw [h.ut_pt hi h0] at j3 j4
  rcases Nat.lt_trichotomy j i with c | c | c
  · have := h.pt_lt c hi
    omega
  · subst c
    omega
  · have := h.a_lt c j1
    omega

/-- a rising list of two values has two at most. -/
theorem two_most {l : List Int} (up : l.Pairwise (· < ·)) {p q : Int} (h : ∀ x ∈ l, x = p ∨ x = q) : l.length ≤ 2 := by
  match l, up, h with
  | [], _, _ => simp
  | [x], _, _ => simp
  | [x, y], _, _ => simp
  | x :: y :: z :: r, up, h =>
    exfalso
    simp only [List.pairwise_cons, List.mem_cons] at up
    have a1 := up.1 y (.inl rfl)
    have a2 := up.2.1 z (.inl rfl)
    have b1 := h x (by simp)
    have b2 := h y (by simp)
    have b3 := h z (by simp)
    omega
/-- .. so few even times have one UTC time where there is one later change at most. -/
theorem Rt.even_few {n : Nat} {a o : Nat → Int} (h : Rt n a o) (hn : n < 3) {t : Int} {l : List Int} (up : l.Pairwise (· < ·)) (k : ∀ x ∈ l, ut n a o x = t) : l.length ≤ 2 := by
  refine two_most (p := t + o 0 * 1048576) (q := t + o 1 * 1048576) up fun x hx => ?_
  obtain ⟨i, hi, e⟩ := h.ofs_mem x
  have e2 := k x hx
  unfold ut at e2
  rw [e] at e2
  match i, hi with
  | 0, _ => left; omega
  | 1, _ => right; omega
  | i + 2, hi => omega
/-- an even time is its UTC time and an offset of 0 to 200 seconds. -/
theorem Rt.even_in {n : Nat} {a o : Nat → Int} (h : Rt n a o) (u : Int) : ∃ k : Nat, k ≤ 200 ∧ u = ut n a o u + k * 1048576 := by
  obtain ⟨b1, b2⟩ := h.ofs_bd u
  refine ⟨(ofs n a o u).toNat, by omega, ?_⟩
  unfold ut
  omega
end Go.Proofs.Ytoecgabdjpgleaa.Lp
