/-
  Votes: who survives, and what they say together.
  Conditions: none.
-/
import Derived.Test.YtkmbeogmgehnfaaVoC
namespace Go.Proofs.Ytkmbeogmgehnfaa.Vo
open Hu
set_option linter.unusedVariables false
set_option linter.unusedSimpArgs false

/-- a sum over numbers. -/
def sm (f : Nat → Int) : List Nat → Int
  | [] => 0
  | n :: r => f n + sm f r
theorem sm_app (f : Nat → Int) : ∀ l k : List Nat, sm f (l ++ k) = sm f l + sm f k
  | [], k => by simp [sm]
  | n :: r, k => by
    show f n + sm f (r ++ k) = f n + sm f r + sm f k
    rw [sm_app f r k]
    omega
theorem sm_snoc (f : Nat → Int) {l : List Nat} {k n : Nat} (h : l[k]? = some n) : sm f (l.take (k + 1)) = sm f (l.take k) + f n := by
  rw [take_more h, sm_app]
  simp [sm]
theorem sm_bd {f : Nat → Int} {lo hi : Int} : ∀ {N : List Nat}, (∀ n ∈ N, lo ≤ f n ∧ f n ≤ hi) → lo * N.length ≤ sm f N ∧ sm f N ≤ hi * N.length
  | [], _ => by simp [sm]
  | n :: r, h => by
    have q := sm_bd (N := r) (fun x hx => h x (List.mem_cons_of_mem _ hx))
    have p := h n (List.mem_cons_self ..)
    rw [List.length_cons]
    show lo * ((r.length + 1 : Nat) : Int) ≤ f n + sm f r ∧ f n + sm f r ≤ hi * ((r.length + 1 : Nat) : Int)
    rw [Int.natCast_add, Int.mul_add, Int.mul_add]
    simp only [Int.natCast_one, Int.mul_one]
    omega
theorem sm_mono {f g : Nat → Int} : ∀ {N : List Nat}, (∀ n ∈ N, f n ≤ g n) → sm f N ≤ sm g N
  | [], _ => Int.le_refl _
  | n :: r, h => by
    have q := sm_mono (N := r) (fun x hx => h x (List.mem_cons_of_mem _ hx))
    have p := h n (List.mem_cons_self ..)
    show f n + sm f r ≤ g n + sm g r
    omega
theorem sm_congr {f g : Nat → Int} {N : List Nat} (h : ∀ n ∈ N, f n = g n) : sm f N = sm g N :=
  Int.le_antisymm (sm_mono fun n hn => Int.le_of_eq (h n hn)) (sm_mono fun n hn => Int.le_of_eq (h n hn).symm)
theorem sm_mul (f : Nat → Int) (c : Int) : ∀ N, sm (fun n => f n * c) N = sm f N * c
  | [] => by simp [sm]
  | n :: r => by
    show f n * c + sm (fun n => f n * c) r = (f n + sm f r) * c
    rw [sm_mul f c r, Int.add_mul]
theorem sm_add (f g : Nat → Int) : ∀ N, sm (fun n => f n + g n) N = sm f N + sm g N
  | [] => by simp [sm]
  | n :: r => by
    show f n + g n + sm (fun n => f n + g n) r = f n + sm f r + (g n + sm g r)
    rw [sm_add f g r]
    omega
theorem mul_in {w x W A : Int} (h0 : 0 ≤ w) (hW : w ≤ W) (h1 : -A ≤ x) (h2 : x ≤ A) (hA : 0 ≤ A) : -(W * A) ≤ w * x ∧ w * x ≤ W * A := by
  have a := Int.mul_le_mul_of_nonneg_left h2 h0
  have b := Int.mul_le_mul_of_nonneg_right hW hA
  have c := Int.mul_le_mul_of_nonneg_left h1 h0
  rw [Int.mul_neg] at c
  omega
/-- the sums of the weights, of the offsets by weight, of the distances by weight. -/
def cAll (L : List Cd) (N : List Nat) : Int := sm (fun n => wt (cd L n)) N
def cSum (L : List Cd) (N : List Nat) : Int := sm (fun n => wt (cd L n) * (cd L n).off) N
def cDev (L : List Cd) (x : Int) (N : List Nat) : Int := sm (fun n => wt (cd L n) * far (cd L n).off x) N
theorem far_in {a b : Int} (ha : -68719476736 ≤ a ∧ a ≤ 68719476736) (hb : -68719476736 ≤ b ∧ b ≤ 68719476736) : 0 ≤ far a b ∧ far a b ≤ 137438953472 := by
  unfold far; split <;> omega
theorem co_one {L : List Cd} (ok : okL L) {x : Int} (hx : -68719476736 ≤ x ∧ x ≤ 68719476736) {n : Nat} (hn : n < L.length) :
    (1 ≤ wt (cd L n) ∧ wt (cd L n) ≤ 1048576) ∧ (-72057594037927936 ≤ wt (cd L n) * (cd L n).off ∧ wt (cd L n) * (cd L n).off ≤ 72057594037927936) ∧ 0 ≤ wt (cd L n) * far (cd L n).off x ∧ wt (cd L n) * far (cd L n).off x ≤ 144115188075855872 := by
  have okc := cd_ok ok hn
  have w := wt_in okc
  have o := okc.1
  have f := far_in o hx
  have p := mul_in (by omega) w.2 (show -68719476736 ≤ (cd L n).off from o.1) o.2 (by decide)
  have q := mul_in (by omega) w.2 (show -137438953472 ≤ far (cd L n).off x by omega) f.2 (by decide)
  have r := Int.mul_nonneg (show 0 ≤ wt (cd L n) by omega) f.1
  exact ⟨w, by omega, by omega, by omega⟩
theorem co_bd {L : List Cd} (ok : okL L) {x : Int} (hx : -68719476736 ≤ x ∧ x ≤ 68719476736) {N : List Nat} (h : ∀ n ∈ N, n < L.length) :
    ((N.length : Int) ≤ cAll L N ∧ cAll L N ≤ 1048576 * N.length) ∧ (-72057594037927936 * (N.length : Int) ≤ cSum L N ∧ cSum L N ≤ 72057594037927936 * N.length) ∧ 0 ≤ cDev L x N ∧ cDev L x N ≤ 144115188075855872 * N.length := by
  have a := sm_bd (f := fun n => wt (cd L n)) (lo := 1) (hi := 1048576) (N := N) (fun n hn => (co_one ok hx (h n hn)).1)
  have b := sm_bd (f := fun n => wt (cd L n) * (cd L n).off) (N := N) (fun n hn => (co_one ok hx (h n hn)).2.1)
  have c := sm_bd (f := fun n => wt (cd L n) * far (cd L n).off x) (N := N) (fun n hn => (co_one ok hx (h n hn)).2.2)
  unfold cAll cSum cDev
  omega
/-- rounding down. -/
theorem fl_of {s a t : Int} (ha : 0 < a) (h1 : t * a ≤ s) (h2 : s < (t + 1) * a) : s / a = t := by
  have p := (Int.le_ediv_iff_mul_le ha).2 h1
  have q := (Int.ediv_lt_iff_lt_mul ha).2 h2
  omega
theorem fl_adj {s a : Int} (ha : 0 < a) : (s < s.tdiv a * a → s / a = s.tdiv a - 1) ∧ (¬ s < s.tdiv a * a → s / a = s.tdiv a) := by
  have e := Int.mul_tdiv_add_tmod s a
  have l1 := Int.tmod_lt_of_pos s ha
  have l2 := Int.lt_tmod_of_pos s ha
  rw [Int.mul_comm] at e
  refine ⟨fun h => fl_of ha ?_ ?_, fun h => fl_of ha (by omega) ?_⟩
  · rw [Int.sub_mul]; omega
  · rw [Int.sub_add_cancel]; exact h
  · rw [Int.add_mul]; omega
/-- what some say together lies among their offsets. -/
theorem co_mean {L : List Cd} {N : List Nat} {lo hi : Int} (ha : 0 < cAll L N) (hw : ∀ n ∈ N, 0 ≤ wt (cd L n)) (h : ∀ n ∈ N, lo ≤ (cd L n).off ∧ (cd L n).off ≤ hi) : lo ≤ cSum L N / cAll L N ∧ cSum L N / cAll L N ≤ hi := by
  have a : sm (fun n => wt (cd L n) * lo) N ≤ cSum L N := sm_mono fun n hn => Int.mul_le_mul_of_nonneg_left (h n hn).1 (hw n hn)
  have b : cSum L N ≤ sm (fun n => wt (cd L n) * hi) N := sm_mono fun n hn => Int.mul_le_mul_of_nonneg_left (h n hn).2 (hw n hn)
  rw [sm_mul] at a b
  refine ⟨(Int.le_ediv_iff_mul_le ha).2 (by rw [Int.mul_comm]; exact a), ?_⟩
  have q : cSum L N / cAll L N < hi + 1 := (Int.ediv_lt_iff_lt_mul ha).2 (by
    have : (hi + 1) * cAll L N = cAll L N * hi + cAll L N := by rw [Int.add_mul, Int.one_mul, Int.mul_comm]
    rw [this]
    have : sm (fun n => wt (cd L n)) N * hi = cAll L N * hi := rfl
    omega)
  omega
def coT (L : List Cd) (N : List Nat) : Int := cSum L N / cAll L N
def coJ (L : List Cd) (N : List Nat) : Int := (cDev L (cd L (N.getD 0 0)).off N + cAll L N - 1) / cAll L N
def nats (S : List Int) : List Nat := S.map Int.toNat
theorem nats_ints (N : List Nat) : nats (ints N) = N := by
  unfold nats ints
  rw [List.map_map]
  conv => rhs; rw [← List.map_id N]
  exact List.map_congr_left fun n _ => by simp
/-- what Combine answers. -/
def coA (L : List Cd) (S : List Int) : (Int × Int) × Int := if chE L S = 0 then (if S = [] then ((0, 0), 5) else ((coT L (nats S), coJ L (nats S)), 0)) else ((0, 0), chE L S)
def coE (L : List Cd) (S : List Int) : Ending := .returned (.tuple #[.int .i64 (coA L S).1.1, .int .i64 (coA L S).1.2, .int .i64 (coA L S).2])
/-- the sum of how far its offset is from each other one's; the select jitter. -/
def sF (L : List Cd) (s : List Nat) (x : Int) : Int := sm (fun n => far x (cd L n).off) s
def sj (L : List Cd) (s : List Nat) (n : Nat) : Int := sF L s (cd L n).off / ((s.length : Int) - 1)
/-- the last one in the order that has the greatest. -/
def IsW (L : List Cd) (s : List Nat) (w : Nat) : Prop := ∃ n, s[w]? = some n ∧ (∀ (i y : Nat), s[i]? = some y → sj L s y ≤ sj L s n) ∧ ∀ (i y : Nat), w < i → s[i]? = some y → sj L s y < sj L s n
theorem IsW.one {L : List Cd} {s : List Nat} {w w' : Nat} (h : IsW L s w) (k : IsW L s w') : w = w' := by
  obtain ⟨n, h1, h2, h3⟩ := h
  obtain ⟨n', k1, k2, k3⟩ := k
  rcases Nat.lt_trichotomy w w' with c | c | c
  · have := h3 w' n' c k1
    have := k2 w n h1
    omega
  · exact c
  · have := k3 w n c h1
    have := h2 w' n' k1
    omega
/-- the least jitter. -/
def lj (L : List Cd) : List Nat → Int
  | [] => 68719476736
  | n :: r => min (cd L n).jit (lj L r)
theorem lj_snoc (L : List Cd) : ∀ (s : List Nat) (n : Nat), lj L (s ++ [n]) = min (lj L s) (cd L n).jit
  | [], n => by show min _ _ = min _ _; simp only [lj]; omega
  | x :: r, n => by
    show min _ (lj L (r ++ [n])) = min (min _ (lj L r)) _
    rw [lj_snoc L r n]
    omega
/-- one by one left out. -/
inductive Red (L : List Cd) : List Nat → List Nat → Prop
  | few {s : List Nat} : s.length ≤ 3 → Red L s s
  | calm {s : List Nat} {w n : Nat} : 3 < s.length → IsW L s w → s[w]? = some n → sj L s n ≤ lj L s → Red L s s
  | out {s t : List Nat} {w n : Nat} : 3 < s.length → IsW L s w → s[w]? = some n → lj L s < sj L s n → Red L (s.eraseIdx w) t → Red L s t
theorem Red.one {L : List Cd} {s t : List Nat} (h : Red L s t) : ∀ {t' : List Nat}, Red L s t' → t = t' := by
  induction h with
  | few h => intro t' k; cases k with
    | few _ => rfl
    | calm k _ _ _ => rfl
    | out k _ _ _ _ => omega
  | calm h hw hn hl => intro t' k; cases k with
    | few _ => rfl
    | calm _ _ _ _ => rfl
    | out k kw kn kl _ =>
      obtain rfl := hw.one kw
      rw [hn] at kn
      cases kn
      omega
  | out h hw hn hl _ ih => intro t' k; cases k with
    | few k => omega
    | calm k kw kn kl =>
      obtain rfl := hw.one kw
      rw [hn] at kn
      cases kn
      omega
    | out k kw kn kl kt =>
      obtain rfl := hw.one kw
      exact ih kt
theorem Red.sub {L : List Cd} {s t : List Nat} (h : Red L s t) : t.Sublist s ∧ min 3 s.length ≤ t.length := by
  induction h with
  | few h => exact ⟨List.Sublist.refl _, by omega⟩
  | calm _ _ _ _ => exact ⟨List.Sublist.refl _, by omega⟩
  | @out s t w n h hw hn hl _ ih =>
    refine ⟨ih.1.trans (List.eraseIdx_sublist ..), ?_⟩
    have := (List.getElem?_eq_some_iff.1 hn).1
    rw [List.length_eraseIdx, if_pos this] at ih
    omega
/-- who survives. -/
def Surv (L : List Cd) (N T : List Nat) : Prop := ∃ s, Srt L N s ∧ Red L s T
theorem Surv.one {L : List Cd} {N T T' : List Nat} (h : Surv L N T) (k : Surv L N T') : T = T' := by
  obtain ⟨s, h1, h2⟩ := h
  obtain ⟨s', k1, k2⟩ := k
  obtain rfl := h1.one k1
  exact h2.one k2
theorem Surv.sub {L : List Cd} {N T : List Nat} (h : Surv L N T) (hn : N.Nodup) : (∀ n ∈ T, n ∈ N) ∧ T.Nodup ∧ min 3 N.length ≤ T.length ∧ T.length ≤ N.length := by
  obtain ⟨s, h1, h2⟩ := h
  obtain ⟨q1, q2⟩ := h2.sub
  have e := h1.1.length_eq
  exact ⟨fun n hn => h1.1.mem_iff.1 (q1.subset hn), (h1.1.nodup_iff.2 hn).sublist q1, by omega, by have := q1.length_le; omega⟩
/-- what Cluster answers. -/
def clE (L : List Cd) (S : List Int) : Int := if chE L S = 0 then (if S = [] then 5 else 0) else chE L S
theorem clE_zero {L : List Cd} {S : List Int} (h : clE L S = 0) : chE L S = 0 ∧ S ≠ [] := by
  unfold clE at h
  split at h
  · rename_i q
    split at h
    · cases h
    · rename_i p; exact ⟨q, p⟩
  · rename_i q; exact absurd h q
end Go.Proofs.Ytkmbeogmgehnfaa.Vo
