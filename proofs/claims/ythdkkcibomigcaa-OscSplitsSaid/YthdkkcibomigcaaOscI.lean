/-
  A leg cut in two, and a span aged twice: the arithmetic; the cells of legs as a list; an append at a step of a region that draws its order.
  Conditions: none.
-/
import Derived.Test.YthdkkcibomigcaaOscH
import Derived.Deep.AppendLies
import Derived.Laws.OwnMore
import Derived.OwnWalk
namespace Go.Proofs.Ythdkkcibomigcaa.Fx
open Go.RowKit

/-- the way with leg i cut in two. -/
def cutX (X : Nat → Int) (i j : Nat) : Int := if j < i then X j else if j = i then X i / 3 else if j = i + 1 then X i - X i / 3 else X (j - 1)
def cutY (Y : Nat → Int) (i j : Nat) : Int := if j ≤ i then Y j else Y (j - 1)

theorem cutX_lt {X : Nat → Int} {i j : Nat} (h : j < i) : cutX X i j = X j := by unfold cutX; rw [if_pos h]
theorem cutX_at (X : Nat → Int) (i : Nat) : cutX X i i = X i / 3 := by unfold cutX; rw [if_neg (by omega), if_pos rfl]
theorem cutX_at1 (X : Nat → Int) (i : Nat) : cutX X i (i + 1) = X i - X i / 3 := by unfold cutX; rw [if_neg (by omega), if_neg (by omega), if_pos rfl]
theorem cutX_gt {X : Nat → Int} {i j : Nat} (h : i < j) : cutX X i (j + 1) = X j := by unfold cutX; rw [if_neg (by omega), if_neg (by omega), if_neg (by omega)]; rfl
theorem cutY_le {Y : Nat → Int} {i j : Nat} (h : j ≤ i) : cutY Y i j = Y j := by unfold cutY; rw [if_pos h]
theorem cutY_gt {Y : Nat → Int} {i j : Nat} (h : i ≤ j) : cutY Y i (j + 1) = Y j := by unfold cutY; rw [if_neg (by omega)]; rfl

theorem sum_cut_le (X : Nat → Int) (i : Nat) : ∀ k, k ≤ i → sumTo (cutX X i) k = sumTo X k := by
  intro k hk
  induction k with
  | zero => rfl
  | succ k ih => rw [sumTo_succ, sumTo_succ, ih (by omega), cutX_lt (by omega)]
theorem sum_cut_gt (X : Nat → Int) (i : Nat) : ∀ k, i < k → sumTo (cutX X i) (k + 1) = sumTo X k := by
  intro k hk
  induction k with
  | zero => omega
  | succ k ih =>
    by_cases c : k = i
    · subst c
      rw [sumTo_succ, sumTo_succ, sumTo_succ, sum_cut_le X k k (Nat.le_refl _), cutX_at, cutX_at1]
      omega
    · rw [sumTo_succ, ih (by omega), sumTo_succ, cutX_gt (by omega)]

theorem okW_cut {n i : Nat} {X Y : Nat → Int} (h : okW n X Y) (hi : i < n) : okW (n + 1) (cutX X i) (cutY Y i) := by
  intro j hj
  by_cases c : j < i
  · have a := h j (by omega)
    rw [cutX_lt c, cutY_le (by omega), sum_cut_le X i (j + 1) (by omega)]
    exact a
  · have b := h i hi
    obtain ⟨⟨b1, b2, b3, b4⟩, b5⟩ := b
    have s0 := sumTo_bd h i (by omega)
    by_cases c1 : j = i
    · subst c1
      rw [cutX_at, cutY_le (Nat.le_refl _), sumTo_succ, sum_cut_le X j j (Nat.le_refl _), cutX_at]
      rw [sumTo_succ] at b5
      unfold rt
      omega
    · obtain ⟨k, rfl⟩ : ∃ k, j = k + 1 := ⟨j - 1, by omega⟩
      by_cases c2 : k = i
      · subst c2
        rw [cutX_at1, cutY_gt (Nat.le_refl _), sum_cut_gt X k (k + 1) (by omega)]
        unfold rt
        omega
      · have a := h k (by omega)
        rw [cutX_gt (by omega), cutY_gt (by omega), sum_cut_gt X i (k + 1) (by omega)]
        exact a

theorem lf_cut_le (X : Nat → Int) (t : Int) (i : Nat) : ∀ k, k ≤ i → lf (cutX X i) t k = lf X t k := by
  intro k hk
  induction k with
  | zero => rfl
  | succ k ih => rw [lf_succ, lf_succ, ih (by omega), cutX_lt (by omega)]
theorem ml_cut_le (X Y : Nat → Int) (t : Int) (i : Nat) : ∀ k, k ≤ i → ml (cutX X i) (cutY Y i) t k = ml X Y t k := by
  intro k hk
  induction k with
  | zero => rfl
  | succ k ih => rw [ml_succ, ml_succ, ih (by omega), cutX_lt (by omega), cutY_le (by omega), lf_cut_le X t i k (by omega)]

theorem lf_cut_gt {n i : Nat} {X Y : Nat → Int} {t : Int} (h : okW n X Y) (ht : 0 ≤ t) (hi : i < n) : ∀ k, i < k → k ≤ n → lf (cutX X i) t (k + 1) = lf X t k := by
  intro k hk hn
  induction k with
  | zero => omega
  | succ k ih =>
    by_cases c : k = i
    · subst c
      have x0 := (h k hi).1.1
      have l0 := lf_eq h ht k (by omega)
      rw [lf_succ, lf_succ, lf_succ, lf_cut_le X t k k (Nat.le_refl _), cutX_at, cutX_at1]
      omega
    · rw [lf_succ, ih (by omega) (by omega), lf_succ, cutX_gt (by omega)]

theorem ml_cut_gt {n i : Nat} {X Y : Nat → Int} {t : Int} (h : okW n X Y) (ht : 0 ≤ t) (hi : i < n) : ∀ k, i < k → k ≤ n → ml (cutX X i) (cutY Y i) t (k + 1) = ml X Y t k := by
  intro k hk hn
  induction k with
  | zero => omega
  | succ k ih =>
    by_cases c : k = i
    · subst c
      have x0 := (h k hi).1.1
      have l0 := lf_eq h ht k (by omega)
      rw [ml_succ, ml_succ, ml_succ, ml_cut_le X Y t k k (Nat.le_refl _), lf_succ, lf_cut_le X t k k (Nat.le_refl _), cutX_at, cutX_at1, cutY_le (Nat.le_refl _), cutY_gt (Nat.le_refl _)]
      have e : min (X k) (lf X t k) = min (X k / 3) (lf X t k) + min (X k - X k / 3) (lf X t k - min (X k / 3) (lf X t k)) := by omega
      rw [e, Int.add_mul, Int.add_assoc]
    · rw [ml_succ, ih (by omega) (by omega), ml_succ, cutX_gt (by omega), cutY_gt (by omega), lf_cut_gt h ht hi k (by omega) (by omega)]

/-- the cell p of legs. -/
def cl (X Y : Nat → Int) (p : Nat) : Value := if p % 2 = 0 then .int .i64 (X (p / 2)) else .int .i64 (Y (p / 2))
/-- the cells of m legs from leg lo on. -/
def rowC (X Y : Nat → Int) (lo m : Nat) : List Value := (List.range (m * 2)).map fun p => cl X Y (lo * 2 + p)

theorem rowC_len (X Y : Nat → Int) (lo m : Nat) : (rowC X Y lo m).length = m * 2 := by simp [rowC]
theorem rowC_get (X Y : Nat → Int) (lo m : Nat) {p : Nat} (h : p < m * 2) : (rowC X Y lo m)[p]? = some (cl X Y (lo * 2 + p)) := by
  simp [rowC, List.getElem?_map, List.getElem?_range h]
theorem cl_one (X Y : Nat → Int) (p : Nat) : (cl X Y p).oneCell' = true := by unfold cl; split <;> rfl
theorem rowC_one (X Y : Nat → Int) (lo m : Nat) : ∀ u ∈ rowC X Y lo m, u.oneCell' = true := by
  intro u hu
  simp only [rowC, List.mem_map] at hu
  obtain ⟨p, _, rfl⟩ := hu
  exact cl_one X Y _
theorem cl_even (X Y : Nat → Int) (j : Nat) : cl X Y (j * 2) = .int .i64 (X j) := by unfold cl; rw [if_pos (by omega), show j * 2 / 2 = j by omega]
theorem cl_odd (X Y : Nat → Int) (j : Nat) : cl X Y (j * 2 + 1) = .int .i64 (Y j) := by unfold cl; rw [if_neg (by omega), show (j * 2 + 1) / 2 = j by omega]

theorem Legs.cl {w : World} {b off n : Nat} {X Y : Nat → Int} (h : Legs w b off n X Y) {p : Nat} (hp : p < n * 2) : w.cell? ⟨b, off + p, none⟩ = some (cl X Y p) := by
  have a := h.2 (p / 2) (by omega)
  unfold Fx.cl
  split
  · rename_i c
    rw [show off + p = off + p / 2 * 2 by omega]; exact a.1
  · rename_i c
    rw [show off + p = off + p / 2 * 2 + 1 by omega]; exact a.2

theorem addr_add (b off j : Nat) : (⟨b, off, none⟩ : Addr).add j = ⟨b, off + j, none⟩ := by unfold Addr.add; split <;> simp_all

theorem Legs.news {w : World} {b off n : Nat} {X Y : Nat → Int} (h : Legs w b off n X Y) (lo m : Nat) (hm : lo + m ≤ n) :
    ∀ j u, (rowC X Y lo m)[j]? = some u → w.cell? ((⟨b, off + lo * 2, none⟩ : Addr).add j) = some u := by
  intro j u hu
  have hj : j < m * 2 := by
    have := (List.getElem?_eq_some_iff.1 hu).1
    rwa [rowC_len] at this
  rw [rowC_get X Y lo m hj] at hu
  rw [addr_add, Nat.add_assoc, h.cl (by omega)]
  exact hu

/-- the cells of the way with leg i cut in two. -/
theorem cut_cells (X Y : Nat → Int) (n i : Nat) (hi : i < n) : ∀ j, j < n + 1 →
    ((rowC X Y 0 i ++ [.int .i64 (X i / 3), .int .i64 (Y i), .int .i64 (X i - X i / 3), .int .i64 (Y i)]) ++ rowC X Y (i + 1) (n - (i + 1)))[j * 2]? = some (.int .i64 (cutX X i j)) ∧
    ((rowC X Y 0 i ++ [.int .i64 (X i / 3), .int .i64 (Y i), .int .i64 (X i - X i / 3), .int .i64 (Y i)]) ++ rowC X Y (i + 1) (n - (i + 1)))[j * 2 + 1]? = some (.int .i64 (cutY Y i j)) := by
  intro j hj
  have l1 := rowC_len X Y 0 i
  by_cases c : j < i
  · rw [List.getElem?_append_left (by simp [l1]; omega), List.getElem?_append_left (by omega), List.getElem?_append_left (by simp [l1]; omega), List.getElem?_append_left (by omega),
      rowC_get X Y 0 i (by omega), rowC_get X Y 0 i (by omega), cutX_lt c, cutY_le (by omega), Nat.zero_mul, Nat.zero_add, Nat.zero_add, cl_even, cl_odd]
    exact ⟨rfl, rfl⟩
  · by_cases c1 : j ≤ i + 1
    · rw [List.getElem?_append_left (by simp [l1]; omega), List.getElem?_append_right (by omega), List.getElem?_append_left (by simp [l1]; omega), List.getElem?_append_right (by omega), l1]
      by_cases c2 : j = i
      · subst c2
        rw [show j * 2 - j * 2 = 0 by omega, show j * 2 + 1 - j * 2 = 1 by omega, cutX_at, cutY_le (Nat.le_refl _)]
        exact ⟨rfl, rfl⟩
      · obtain rfl : j = i + 1 := by omega
        rw [show (i + 1) * 2 - i * 2 = 2 by omega, show (i + 1) * 2 + 1 - i * 2 = 3 by omega, cutX_at1, cutY_gt (Nat.le_refl _)]
        exact ⟨rfl, rfl⟩
    · obtain ⟨k, rfl⟩ : ∃ k, j = k + 1 := ⟨j - 1, by omega⟩
      rw [List.getElem?_append_right (by simp [l1]; omega), List.getElem?_append_right (by simp [l1]; omega)]
      have e : (rowC X Y 0 i ++ [Value.int IntKind.i64 (X i / 3), .int .i64 (Y i), .int .i64 (X i - X i / 3), .int .i64 (Y i)]).length = (i + 2) * 2 := by simp [l1]; omega
      rw [e, rowC_get X Y (i + 1) _ (by omega), rowC_get X Y (i + 1) _ (by omega), cutX_gt (by omega), cutY_gt (by omega),
        show (i + 1) * 2 + ((k + 1) * 2 - (i + 2) * 2) = k * 2 by omega, show (i + 1) * 2 + ((k + 1) * 2 + 1 - (i + 2) * 2) = k * 2 + 1 by omega, cl_even, cl_odd]
      exact ⟨rfl, rfl⟩

/-! ### aged twice -/
theorem low_add {d m rho : Int} (hr : 0 ≤ rho) : lowN d rho + lowN m rho ≤ lowN (max d 0 + max m 0) rho := by
  unfold lowN
  refine (Int.le_ediv_iff_mul_le (by omega)).2 ?_
  have a := Int.ediv_mul_le (max (d - 1) 0 * 1000000) (show 1000000 + rho ≠ 0 by omega)
  have b := Int.ediv_mul_le (max (m - 1) 0 * 1000000) (show 1000000 + rho ≠ 0 by omega)
  rw [Int.add_mul]
  omega

theorem high_le {d rho z : Int} (hr' : rho ≤ 1000) (h : (d + 1) * 1000000 ≤ z * (1000000 - rho)) : highN d rho ≤ z := by
  have e := Int.mul_ediv_add_emod ((d + 1) * 1000000) (1000000 - rho)
  rw [Int.mul_comm] at e
  unfold highN
  split
  · rename_i c
    have : (d + 1) * 1000000 / (1000000 - rho) * (1000000 - rho) < z * (1000000 - rho) := by omega
    have := Int.lt_of_mul_lt_mul_right this (by omega)
    omega
  · rename_i c
    have g := Int.emod_nonneg ((d + 1) * 1000000) (show 1000000 - rho ≠ 0 by omega)
    have : (d + 1) * 1000000 / (1000000 - rho) * (1000000 - rho) ≤ z * (1000000 - rho) := by omega
    exact Int.le_of_mul_le_mul_right this (by omega)

theorem high_add {d m rho : Int} (hr' : rho ≤ 1000) : highN (d + m) rho ≤ highN d rho + highN m rho := by
  refine high_le hr' ?_
  have a := high_mul (d := d) hr'
  have b := high_mul (d := m) hr'
  rw [Int.add_mul (highN d rho)]
  omega

theorem age_half {lo hi d rho : Int} (h : okS lo hi) (hd : 0 ≤ d) (hr : 0 ≤ rho) (hr' : rho ≤ 1000) : okS (shl lo (elLo d rho)) (shh hi (elHi d rho)) := by
  obtain ⟨h1, h2, h3⟩ := h
  obtain ⟨e1, e2, e3, e4⟩ := el_bd hd hr hr'
  generalize elLo d rho = l at *
  generalize elHi d rho = m at *
  unfold okS shl shh bnd
  (repeat' split) <;> omega

theorem age_twice {lo hi d m rho : Int} (h : okS lo hi) (hd : 0 ≤ d) (hd' : d < 274877906944) (hm : 0 ≤ m) (hm' : m < 274877906944) (hr : 0 ≤ rho) (hr' : rho ≤ 1000) :
    shl (shl lo (elLo d rho)) (elLo m rho) ≤ shl lo (elLo (d + m) rho) ∧ shh hi (elHi (d + m) rho) ≤ shh (shh hi (elHi d rho)) (elHi m rho) := by
  obtain ⟨h1, h2, h3⟩ := h
  obtain ⟨a1, a2, a3, a4⟩ := el_bd hd hr hr'
  obtain ⟨b1, b2, b3, b4⟩ := el_bd hm hr hr'
  obtain ⟨c1, c2, c3, c4⟩ := el_bd (d := d + m) (by omega) hr hr'
  have L := low_add (d := d) (m := m) hr
  have H := high_add (d := d) (m := m) hr'
  rw [show max d 0 + max m 0 = d + m by omega] at L
  have E : ∀ x, x ≤ 1099511627776 → elLo x rho = lowN x rho ∧ elHi x rho = highN x rho := by
    intro x hx; unfold elLo elHi; rw [if_neg (by omega), if_neg (by omega)]; exact ⟨rfl, rfl⟩
  rw [← (E d (by omega)).1, ← (E m (by omega)).1, ← (E (d + m) (by omega)).1] at L
  rw [← (E d (by omega)).2, ← (E m (by omega)).2, ← (E (d + m) (by omega)).2] at H
  clear E
  generalize elLo d rho = l1 at *
  generalize elLo m rho = l2 at *
  generalize elLo (d + m) rho = l3 at *
  generalize elHi d rho = u1 at *
  generalize elHi m rho = u2 at *
  generalize elHi (d + m) rho = u3 at *
  constructor
  · unfold shl bnd
    (repeat' split) <;> omega
  · unfold shh bnd
    (repeat' split) <;> omega

/-! ### append, at a step of a region that draws its order: whatever is appended, nothing too -/
theorem step_append_any {P : Program} (w : World) {ops : Array Oper} {o : Oper} {a : Act} {K : Act → World → Prop} {Q : Exit → Act → World → Prop} {E : Prop} (hgd : o.guard = none) (s x : Operand) (t : TypeId)
    (ho : o.op = .call { callee := .builtin .append, args := #[s, x], argTypes := #[t, t] })
    (base : Nat) (e : TypeId) (i : TypeInfo) (z : Value) (size bytes : Nat) (ht : P.underlying t = some (.slice e)) (hi : P.info? e = some i) (hz : i.zero = some z)
    (hsize : i.size = size) (hby : i.bytes = bytes) (hzs : z.cells.size = size) (hsz : 0 < size)
    (v : Value) (n : Nat) (xs : List Value) (hs : a.eval s = v) (hown : w.ownsRow base e size v n xs)
    (ad : Addr) (m c : Nat) (news : List Value) (hx : a.eval x = .slice (some ad) m c) (hl : news.length = m * size) (hnews : ∀ j u, news[j]? = some u → w.cell? (ad.add j) = some u) (h1 : ∀ u ∈ news, u.oneCell' = true)
    (h63 : n + m ≤ maxLen) (hbytes : (n + m) * bytes ≤ 140737488355328) (hbase : base ≤ w.heap.size)
    (h : ∀ v' w', w'.ownsRow base e size v' (n + m) (xs ++ news) → w.grownBy w' v.ownBlock → (v'.ownBlock = v.ownBlock ∨ v'.ownBlock = some w.heap.size) → K (a.put o.dst v') w') :
    if Region.wanted o (yielded ops a.tmps) = true then Oper.wp P o a w K Q else E := by
  have hw : Region.wanted o (yielded ops a.tmps) = true := by simp [Region.wanted, hgd]
  rw [if_pos hw]
  obtain ⟨v', w', hr, h2, h3, _, h5⟩ := run_append_own_at (P := P) w base t o.type e i z size bytes ht hi hz hsize hby hzs hsz v n xs hown ad m c news hl hnews h1 h63 hbytes hbase
  unfold Oper.wp execOp
  simp only [ho, resolve, invoke, builtin, Sem.run_bind, Sem.run_pure, Result.andThen_ok, List.map_toArray, List.map_cons, List.map_nil, hs, hx, hr]
  exact h v' w' h2 h3 h5
end Go.Proofs.Ythdkkcibomigcaa.Fx
