/-
  Keys and rings of keys, in numbers and in memory; bytes that may be written.
  Conditions: none.
-/
import Derived.Test.YtbbcgcfahaljoaaDoorHsZ
import Derived.Deep.Slices
namespace Go.Proofs.YtbbcgcfahaljoaaDoor.Mc
open Go.ChangeShapes Go.WideShapes Go.ChangeAt Go.RowKit Go.Joins Hs
set_option linter.unusedVariables false
set_option linter.unusedSimpArgs false

structure KD where
  id : Int
  kind : Int
  v : Value
  l : Nat
  f : Nat → Nat
def k0 : KD := ⟨0, 0, .slice none 0 0, 0, fun _ => 0⟩
instance : Inhabited KD := ⟨k0⟩
/-- the key as a value. -/
def KD.val (k : KD) : Value := .agg #[.int .u32 k.id, .int .i64 k.kind, k.v]
/-- is it a key? -/
def isK (k : KD) : Bool := !decide (k.id = 0) && decide (1 ≤ k.l) && decide (k.l ≤ 64) && (decide (k.kind = 0) || decide (k.kind = 1) || (decide (k.kind = 2) && decide (k.l = 16)))
/-- where the first one of n with that number stands, or n. -/
def fi (K : Nat → KD) (x : Int) : Nat → Nat
  | 0 => 0
  | n + 1 => if fi K x n < n then fi K x n else if (K n).id = x then n else n + 1
def goodB (n : Nat) (K : Nat → KD) : Bool := decide (n ≤ 64) && (List.range n).all fun j => isK (K j)
def dupB (n : Nat) (K : Nat → KD) : Bool := (List.range n).any fun i => decide (fi K (K i).id i < i)
def chk (n : Nat) (K : Nat → KD) : Int := if goodB n K = true then (if dupB n K = true then 7 else 0) else 3
def fE (n : Nat) (K : Nat → KD) (x : Int) : Int := if chk n K = 0 then (if fi K x n < n then 0 else 30) else chk n K
def fK (n : Nat) (K : Nat → KD) (x : Int) : KD := if fE n K x = 0 then K (fi K x n) else k0
def mE (k : KD) : Int := if isK k = true then 0 else 3
def cat (k : KD) (g : Nat → Nat) (n : Nat) : Nat → Nat := fun i => (bl k.f k.l ++ bl g n).getD i 0
theorem fi_le (K : Nat → KD) (x : Int) : ∀ n, fi K x n ≤ n
  | 0 => Nat.le_refl _
  | n + 1 => by
    rw [fi]
    split
    · omega
    · split <;> omega
theorem fi_miss {K : Nat → KD} {x : Int} : ∀ n, (∀ j, j < n → (K j).id ≠ x) → fi K x n = n
  | 0, _ => rfl
  | n + 1, h => by
    rw [fi, fi_miss n (fun j hj => h j (by omega)), if_neg (Nat.lt_irrefl _), if_neg (h n (by omega))]
theorem fi_hit {K : Nat → KD} {x : Int} {k : Nat} (h : (K k).id = x) (hk : ∀ j, j < k → (K j).id ≠ x) : ∀ n, k < n → fi K x n = k
  | 0, h => absurd h (by omega)
  | n + 1, hn => by
    by_cases c : k < n
    · rw [fi, fi_hit h hk n c, if_pos c]
    · obtain rfl : k = n := by omega
      rw [fi, fi_miss k hk, if_neg (Nat.lt_irrefl _), if_pos h]
theorem fi_id {K : Nat → KD} {x : Int} : ∀ n, fi K x n < n → (K (fi K x n)).id = x
  | 0, h => absurd h (by omega)
  | n + 1, h => by
    by_cases c : fi K x n < n
    · rw [fi, if_pos c]; exact fi_id n c
    · rw [fi, if_neg c] at h ⊢
      by_cases e : (K n).id = x
      · rw [if_pos e]; exact e
      · rw [if_neg e] at h; omega
theorem fi_least {K : Nat → KD} {x : Int} {j n : Nat} (h : (K j).id = x) (hj : j < n) : fi K x n ≤ j := by
  by_cases c : fi K x n ≤ j
  · exact c
  · exfalso
    have key : ∀ m, m ≤ n → j < m → fi K x m ≤ j := by
      intro m
      induction m with
      | zero => intro _ h; omega
      | succ m ih =>
        intro hm hjm
        by_cases c2 : j < m
        · have := ih (by omega) c2
          rw [fi, if_pos (by omega)]; exact this
        · obtain rfl : j = m := by omega
          rw [fi]
          split
          · omega
          · first | (rw [if_pos h]; omega) | omega
    exact c (key n (Nat.le_refl _) hj)
theorem goodB_iff {n : Nat} {K : Nat → KD} : goodB n K = true ↔ n ≤ 64 ∧ ∀ j, j < n → isK (K j) = true := by
  simp [goodB]
theorem dupB_iff {n : Nat} {K : Nat → KD} : dupB n K = true ↔ ∃ i, i < n ∧ fi K (K i).id i < i := by
  simp [dupB]
theorem chk_long {n : Nat} {K : Nat → KD} (h : 64 < n) : chk n K = 3 := by
  rw [chk, if_neg (fun e => by have := (goodB_iff.1 e).1; omega)]
theorem chk_bad {n : Nat} {K : Nat → KD} {j : Nat} (hj : j < n) (h : isK (K j) = false) : chk n K = 3 := by
  rw [chk, if_neg (fun e => by have := (goodB_iff.1 e).2 j hj; rw [h] at this; cases this)]
theorem chk_twice {n : Nat} {K : Nat → KD} (h : n ≤ 64) (h2 : ∀ j, j < n → isK (K j) = true) {i : Nat} (hi : i < n) (hd : fi K (K i).id i < i) : chk n K = 7 := by
  rw [chk, if_pos (goodB_iff.2 ⟨h, h2⟩), if_pos (dupB_iff.2 ⟨i, hi, hd⟩)]
theorem chk_ok {n : Nat} {K : Nat → KD} (h : n ≤ 64) (h2 : ∀ j, j < n → isK (K j) = true) (hd : ∀ i, i < n → ¬ fi K (K i).id i < i) : chk n K = 0 := by
  rw [chk, if_pos (goodB_iff.2 ⟨h, h2⟩), if_neg (fun e => by obtain ⟨i, hi, h⟩ := dupB_iff.1 e; exact hd i hi h)]
theorem chk_zero {n : Nat} {K : Nat → KD} (h : chk n K = 0) : n ≤ 64 ∧ (∀ j, j < n → isK (K j) = true) ∧ ∀ i, i < n → ¬ fi K (K i).id i < i := by
  unfold chk at h
  by_cases c : goodB n K = true
  · rw [if_pos c] at h
    by_cases d : dupB n K = true
    · rw [if_pos d] at h; cases h
    · obtain ⟨h1, h2⟩ := goodB_iff.1 c
      exact ⟨h1, h2, fun i hi hd => d (dupB_iff.2 ⟨i, hi, hd⟩)⟩
  · rw [if_neg c] at h; cases h
theorem chk_cases (n : Nat) (K : Nat → KD) : chk n K = 0 ∨ chk n K = 3 ∨ chk n K = 7 := by
  unfold chk
  split
  · split
    · exact .inr (.inr rfl)
    · exact .inl rfl
  · exact .inr (.inl rfl)
theorem fE_cases (n : Nat) (K : Nat → KD) (x : Int) : fE n K x = 0 ∨ fE n K x = 3 ∨ fE n K x = 7 ∨ fE n K x = 30 := by
  unfold fE
  split
  · split
    · exact .inl rfl
    · exact .inr (.inr (.inr rfl))
  · rcases chk_cases n K with h | h | h
    · exact .inl h
    · exact .inr (.inl h)
    · exact .inr (.inr (.inl h))
theorem fE_zero {n : Nat} {K : Nat → KD} {x : Int} (h : fE n K x = 0) : chk n K = 0 ∧ fi K x n < n := by
  unfold fE at h
  by_cases c : chk n K = 0
  · rw [if_pos c] at h
    by_cases d : fi K x n < n
    · exact ⟨c, d⟩
    · rw [if_neg d] at h; cases h
  · rw [if_neg c] at h; exact absurd h c
theorem fK_isK {n : Nat} {K : Nat → KD} {x : Int} (h : fE n K x = 0) : isK (fK n K x) = true := by
  rw [fK, if_pos h]
  obtain ⟨h1, h2⟩ := fE_zero h
  exact (chk_zero h1).2.1 _ h2
theorem k0_not : isK k0 = false := rfl
theorem isK_l {k : KD} (h : isK k = true) : 1 ≤ k.l ∧ k.l ≤ 64 := by
  simp [isK] at h
  omega
theorem bl_byte {f : Nat → Nat} {n : Nat} (h : ∀ i, i < n → f i < 256) : ∀ x ∈ bl f n, x < 256 := by
  intro x hx
  simp only [bl, List.mem_map, List.mem_range] at hx
  obtain ⟨i, hi, rfl⟩ := hx
  exact h i hi

/-- the value v is a slice of n bytes, byte i is f i. -/
def Sb (w : World) (v : Value) (n : Nat) (f : Nat → Nat) : Prop :=
  ∃ a cap, v = .slice a n cap ∧ n ≤ cap ∧ cap ≤ 9223372036854775807 ∧ (∀ i, f i < 256) ∧ (0 < n → ∃ b off, a = some ⟨b, off, none⟩ ∧ Bs w b off n f) ∧ (a = none → cap = 0)
theorem Sb.form {w : World} {v : Value} {n : Nat} {f : Nat → Nat} (h : Sb w v n f) : ∃ a cap, v = .slice a n cap := by
  obtain ⟨a, cap, e, _⟩ := h
  exact ⟨a, cap, e⟩
theorem Sb.below {w w' : World} {v : Value} {n : Nat} {f : Nat → Nat} (h : Sb w v n f) (k : Below w.heap.size w w') : Sb w' v n f := by
  obtain ⟨a, cap, e, h1, h2, h3, h4, h5⟩ := h
  exact ⟨a, cap, e, h1, h2, h3, fun hn => by obtain ⟨b, off, ea, B⟩ := h4 hn; exact ⟨b, off, ea, B.below k⟩, h5⟩
theorem _root_.Go.Proofs.YtbbcgcfahaljoaaDoor.Hs.Arg.sb {w : World} {v : Value} {n : Nat} {f : Nat → Nat} (h : Arg w v n f) : Sb w v n f := by
  obtain ⟨a, cap, e, h1, h2, h3, h4, h5⟩ := h
  exact ⟨a, cap, e, h1, by omega, h3, h4, h5⟩
theorem Sb.conv {w0 w : World} {va : Value} {n : Nat} {f : Nat → Nat} (A : Sb w0 va n f) (k : Below w0.heap.size w0 w) : (convert 26 9 va).run Tryd.prog w = .ok (.string (bs8 (bl f n))) w := by
  obtain ⟨a, cap, rfl, h1, h2, h3, h4, h5⟩ := A
  by_cases hn : 0 < n
  · obtain ⟨b, off, rfl, B⟩ := h4 hn
    exact conv_bs (B.below k) cap
  · obtain rfl : n = 0 := by omega
    exact conv_zero w a cap
/-- append of them to a slice of the call's own. -/
theorem Sb.app {w0 w : World} {va : Value} {n : Nat} {f : Nat → Nat} (A : Sb w0 va n f) (k : Below w0.heap.size w0 w) {base : Nat} {v : Value} {l : List Nat} (h : Own w base v l) (hb : base ≤ w.heap.size) (hn : l.length + n ≤ 140737488355328) (ty : TypeId) :
    ∃ v' w', (Builtin.append_ #[26, 26] ty #[v, va]).run Tryd.prog w = .ok v' w' ∧ Own w' base v' (l ++ bl f n) ∧ Below base w w' ∧ w.heap.size ≤ w'.heap.size ∧ (v ≠ .slice none 0 0 → v' ≠ .slice none 0 0) := by
  obtain ⟨i, hi, hz, hs, hby⟩ := info_parts info_u8
  obtain ⟨a, cap, rfl, h1, h2, h3, h4, h5⟩ := A
  cases a with
  | none =>
    obtain rfl := h5 rfl
    obtain rfl : n = 0 := by omega
    exact ⟨v, w, run_append_owned_none (P := Tryd.prog) w base 26 ty 5 i 1 Tryd.underlying26 hi v l.length (cl l) h, by simpa [bl] using h, Below.refl _ _, Nat.le_refl _, id⟩
  | some ad =>
    obtain ⟨v', w', hr, ho, hg, hnil, _⟩ := run_append_own_at (P := Tryd.prog) w base 26 ty 5 i (.int .u8 0) 1 1 Tryd.underlying26 hi hz hs hby rfl (by decide) v l.length (cl l) h ad n cap (cl (bl f n)) (by rw [cl_len, bl_len]; omega)
      (by
        intro j u hj
        have hj' : j < n := by have := (List.getElem?_eq_some_iff.1 hj).1; rw [cl_len, bl_len] at this; exact this
        obtain ⟨b, off, ea, B⟩ := h4 (by omega)
        cases ea
        have e := (B.below k).2.2 j hj'
        have : u = .int .u8 (f j : Int) := by simpa [cl, bl, hj'] using hj.symm
        rw [this]
        cases j <;> simpa [Addr.add] using e) (cl_one _) (by unfold maxLen; omega) (by omega) hb
    have hB2 := (Below.refl base w).grown hg hb h.block
    refine ⟨v', w', hr, ?_, hB2, hB2.size, fun hv hv' => hv (hnil.1 hv').1⟩
    unfold Own
    rw [cl_app, List.length_append, bl_len]
    exact ho

/-- n bytes begin at b, o and may be written. -/
def Wr (w : World) (b o n : Nat) (g : Nat → Nat) : Prop :=
  b < w.heap.size ∧ (∀ i, i < n → g i < 256) ∧ ∀ i, i < n → w.cell? ⟨b, o + i, none⟩ = some (.int .u8 (g i)) ∧ w.frozen? ⟨b, o + i, none⟩ = false
theorem Wr.below {w w' : World} {b o n : Nat} {g : Nat → Nat} (h : Wr w b o n g) (k : Below w.heap.size w w') : Wr w' b o n g :=
  ⟨Nat.lt_of_lt_of_le h.1 k.size, h.2.1, fun i hi => ⟨(k.cell (p := ⟨b, o + i, none⟩) h.1).trans (h.2.2 i hi).1, (k.frozen (p := ⟨b, o + i, none⟩) h.1).trans (h.2.2 i hi).2⟩⟩
/-- v is a slice of bytes of the call's own that may be written, or nil and there are none. -/
def Out (w : World) (base : Nat) (v : Value) (l : List Nat) : Prop :=
  (v = .slice none 0 0 ∧ l = []) ∨ ∃ g o cap, v = .slice (some ⟨g, o, none⟩) l.length cap ∧ base ≤ g ∧ l.length ≤ cap ∧ cap ≤ 9223372036854775807 ∧ (∀ x ∈ l, x < 256) ∧ Wr w g o l.length (fun i => l.getD i 0)
theorem getD_byte {l : List Nat} (h : ∀ x ∈ l, x < 256) (i : Nat) : l.getD i 0 < 256 := by
  rw [List.getD_eq_getElem?_getD]
  cases e : l[i]? with
  | none => simp
  | some x => simpa using h x (List.mem_of_getElem? e)
theorem ay_bs {w : World} {b o n : Nat} {g : Nat → Nat} (h : Wr w b o n g) (hf : ∀ i, g i < 256) : Bs w b o n g := ⟨h.1, hf, fun i hi => (h.2.2 i hi).1⟩
theorem own_out {w : World} {base : Nat} {v : Value} {l : List Nat} (h : Own w base v l) (h8 : ∀ x ∈ l, x < 256) : Out w base v l := by
  rcases h.2 with ⟨h0, h1⟩ | ⟨g, cap, cur, hv, hb, hh, hc, hm, hcs, ht⟩
  · exact .inl ⟨h0, List.length_eq_zero_iff.1 h1⟩
  · refine .inr ⟨g, 0, cap, hv, hb, hc, by unfold maxLen at hm; omega, h8, (Array.getElem?_eq_some_iff.1 hh).1, fun i _ => getD_byte h8 i, fun i hi => ?_⟩
    rw [cell_of_row w g (0 + i) cur _ (0, 0) hh]
    refine ⟨?_, frozen_of_row w g _ cur _ hh⟩
    have e : (cl l)[i]? = some (.int .u8 ((l.getD i 0 : Nat) : Int)) := by
      simp [cl, List.getD_eq_getElem?_getD, hi]
    rw [← ht, Nat.mul_one, List.getElem?_take, if_pos hi] at e
    rw [Nat.zero_add]
    simpa using e
theorem Out.mono {w : World} {base base' : Nat} {v : Value} {l : List Nat} (h : Out w base v l) (hb : base' ≤ base) : Out w base' v l := by
  rcases h with h | ⟨g, o, cap, h1, h2, h3⟩
  · exact .inl h
  · exact .inr ⟨g, o, cap, h1, by omega, h3⟩
theorem Out.below {w w' : World} {base : Nat} {v : Value} {l : List Nat} (h : Out w base v l) (k : Below w.heap.size w w') : Out w' base v l := by
  rcases h with h | ⟨g, o, cap, h1, h2, h3, h4, h5, h6⟩
  · exact .inl h
  · exact .inr ⟨g, o, cap, h1, h2, h3, h4, h5, h6.below k⟩
theorem Out.sb {w : World} {base : Nat} {v : Value} {l : List Nat} (h : Out w base v l) : Sb w v l.length (fun i => l.getD i 0) := by
  rcases h with ⟨rfl, rfl⟩ | ⟨g, o, cap, rfl, h2, h3, h4, h5, h6⟩
  · exact ⟨none, 0, rfl, Nat.le_refl _, by omega, fun _ => by simp, fun h => absurd h (by simp), fun _ => rfl⟩
  · exact ⟨_, cap, rfl, h3, h4, getD_byte h5, fun _ => ⟨g, o, rfl, ay_bs h6 (getD_byte h5)⟩, fun h => by cases h⟩
theorem Out.byte {w : World} {base : Nat} {v : Value} {l : List Nat} (h : Out w base v l) : ∀ x ∈ l, x < 256 := by
  rcases h with ⟨rfl, rfl⟩ | ⟨g, o, cap, rfl, h2, h3, h4, h5, h6⟩
  · simp
  · exact h5
theorem out_bl {w : World} {base : Nat} {v : Value} {l : List Nat} (h : Out w base v l) : bl (fun i => l.getD i 0) l.length = l := bl_getD l

/-- three cells hold a key. -/
def KAt (w : World) (b o : Nat) (k : KD) : Prop :=
  w.cell? ⟨b, o, none⟩ = some (.int .u32 k.id) ∧ w.cell? ⟨b, o + 1, none⟩ = some (.int .i64 k.kind) ∧ w.cell? ⟨b, o + 2, none⟩ = some k.v
def KOk (w : World) (k : KD) : Prop := 0 ≤ k.id ∧ k.id < 4294967296 ∧ Sb w k.v k.l k.f
/-- the value v is a ring of n keys. -/
def Ring (w : World) (v : Value) (n : Nat) (K : Nat → KD) : Prop :=
  ∃ a cap, v = .slice a n cap ∧ n ≤ cap ∧ cap ≤ 9223372036854775807 ∧ (0 < n → ∃ b off, a = some ⟨b, off, none⟩ ∧ b < w.heap.size ∧ ∀ j, j < n → KAt w b (off + j * 3) (K j)) ∧ ∀ j, j < n → KOk w (K j)
theorem KAt.below {w w' : World} {b o : Nat} {k : KD} (h : KAt w b o k) (hb : b < w.heap.size) (q : Below w.heap.size w w') : KAt w' b o k :=
  ⟨(q.cell (p := ⟨b, o, none⟩) hb).trans h.1, (q.cell (p := ⟨b, o + 1, none⟩) hb).trans h.2.1, (q.cell (p := ⟨b, o + 2, none⟩) hb).trans h.2.2⟩
theorem KOk.below {w w' : World} {k : KD} (h : KOk w k) (q : Below w.heap.size w w') : KOk w' k := ⟨h.1, h.2.1, h.2.2.below q⟩
theorem Ring.below {w w' : World} {v : Value} {n : Nat} {K : Nat → KD} (h : Ring w v n K) (q : Below w.heap.size w w') : Ring w' v n K := by
  obtain ⟨a, cap, e, h1, h2, h3, h4⟩ := h
  exact ⟨a, cap, e, h1, h2, fun hn => by obtain ⟨b, off, ea, hb, B⟩ := h3 hn; exact ⟨b, off, ea, Nat.lt_of_lt_of_le hb q.size, fun j hj => (B j hj).below hb q⟩, fun j hj => (h4 j hj).below q⟩
end Go.Proofs.YtbbcgcfahaljoaaDoor.Mc
