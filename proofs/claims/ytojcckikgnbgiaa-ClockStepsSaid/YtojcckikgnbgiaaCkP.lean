/-
  The disciplined clock: what it reads, and how an update is taken.
  Conditions: none.
-/
import Derived.Test.YtojcckikgnbgiaaProg
namespace Go.Proofs.Ytojcckikgnbgiaa.Ck
set_option linter.unusedVariables false
set_option linter.unusedSimpArgs false

/-- a clock; its state 0: unset, 1: set, 2: in a spike. -/
structure Clk where
  base : Int
  at' : Int
  phase : Int
  last : Int
  since : Int
  freq : Int
  state : Int
instance : Inhabited Clk := ⟨⟨0, 0, 0, 0, 0, 0, 0⟩⟩
/-- how much is slewed in d counts, in parts of a thousand million. -/
def slw (p d : Int) : Int := if p < 0 then max (-(500000 * d)) (p * 1000000000) else min (500000 * d) (p * 1000000000)
def gg (f p d : Int) : Int := d * f + slw p d
def xx (f p d : Int) : Int := gg f p d / 1000000000
theorem slw_lip {p d d' : Int} (h : 0 ≤ d) (h' : d ≤ d') : -(500000 * (d' - d)) ≤ slw p d' - slw p d ∧ slw p d' - slw p d ≤ 500000 * (d' - d) := by
  unfold slw
  split <;> omega
theorem slw_in {p d : Int} (h : 0 ≤ d) : -(500000 * d) ≤ slw p d ∧ slw p d ≤ 500000 * d := by
  unfold slw
  split <;> omega
theorem prod_in {e f F : Int} (he : 0 ≤ e) (h1 : -F ≤ f) (h2 : f ≤ F) : -(F * e) ≤ e * f ∧ e * f ≤ F * e := by
  have a := Int.mul_le_mul_of_nonneg_left h2 he
  have b := Int.mul_le_mul_of_nonneg_left h1 he
  rw [Int.mul_neg] at b
  rw [Int.mul_comm F e]
  exact ⟨b, a⟩
theorem gg_lip {f p d d' : Int} (hf : -500000 ≤ f ∧ f ≤ 500000) (h : 0 ≤ d) (h' : d ≤ d') : -(1000000 * (d' - d)) ≤ gg f p d' - gg f p d ∧ gg f p d' - gg f p d ≤ 1000000 * (d' - d) := by
  have a := slw_lip (p := p) h h'
  have b := prod_in (e := d' - d) (f := f) (F := 500000) (by omega) hf.1 hf.2
  have c : (d' - d) * f = d' * f - d * f := Int.sub_mul ..
  unfold gg
  omega
theorem gg_in {f p d : Int} (hf : -500000 ≤ f ∧ f ≤ 500000) (h : 0 ≤ d) : -(1000000 * d) ≤ gg f p d ∧ gg f p d ≤ 1000000 * d := by
  have a := slw_in (p := p) h
  have b := prod_in (e := d) (f := f) (F := 500000) h hf.1 hf.2
  unfold gg
  omega
theorem xx_zero (f p : Int) : xx f p 0 = 0 := by
  unfold xx gg slw
  rw [Int.zero_mul]
  split <;> omega
/-- what is read never falls. -/
theorem xx_rise {f p d d' : Int} (hf : -500000 ≤ f ∧ f ≤ 500000) (h : 0 ≤ d) (h' : d ≤ d') : d + xx f p d ≤ d' + xx f p d' := by
  have a := gg_lip (p := p) hf h h'
  unfold xx
  omega
/-- by one count it rises by at most two. -/
theorem xx_one {f p d : Int} (hf : -500000 ≤ f ∧ f ≤ 500000) (h : 0 ≤ d) : d + 1 + xx f p (d + 1) ≤ d + xx f p d + 2 := by
  have a := gg_lip (p := p) hf h (show d ≤ d + 1 by omega)
  unfold xx
  omega
/-- it keeps near the count. -/
theorem xx_near {f p d a : Int} (hf : -500000 ≤ f ∧ f ≤ 500000) (h : 0 ≤ d) (ha : 0 ≤ a) : -(a / 1000 + 2) ≤ xx f p (d + a) - xx f p d ∧ xx f p (d + a) - xx f p d ≤ a / 1000 + 2 := by
  have q := gg_lip (p := p) hf h (show d ≤ d + a by omega)
  unfold xx
  omega
theorem xx_in {f p d : Int} (hf : -500000 ≤ f ∧ f ≤ 500000) (h : 0 ≤ d) : -d ≤ xx f p d ∧ xx f p d ≤ d := by
  have a := gg_in (p := p) hf h
  unfold xx
  omega
/-- what it reads. -/
def rdV (c : Clk) (r : Int) : Int := c.base + (r - c.at') + xx c.freq c.phase (r - c.at')
def rdO (c : Clk) (r : Int) : Prop := c.at' ≤ r ∧ r - c.at' ≤ 1099511627776
instance (c : Clk) (r : Int) : Decidable (rdO c r) := by unfold rdO; infer_instance
def rdA (c : Clk) (r : Int) : Int × Int := if rdO c r then (rdV c r, 0) else (0, 2)
def bnd (t : Int) : Int := min (max t (-2305843009213693952)) 2305843009213693952
def stp (c : Clk) (r now o : Int) : Clk := ⟨bnd (now + o), r, 0, r, c.since, c.freq, 1⟩
def frq (c : Clk) (r o : Int) : Int := if 1048576 ≤ r - c.last then min (max (c.freq + o * 62500000 / (r - c.last)) (-500000)) 500000 else c.freq
def slC (c : Clk) (r now o : Int) : Clk := ⟨now, r, o, r, c.since, frq c r o, 1⟩
/-- an update: the clock behind it, how it was taken (0 slewed, 1 stepped, 2 ignored), the error. -/
def upd (c : Clk) (r o : Int) : Clk × Int × Int :=
  if ¬ rdO c r then (c, 0, 2) else if o < -68719476736 ∨ 68719476736 < o then (c, 0, 2)
  else if c.state = 0 then (stp c r (rdV c r) o, 1, 0)
  else if -134217 ≤ o ∧ o ≤ 134217 then (slC c r (rdV c r) o, 0, 0)
  else if c.state = 1 then (⟨c.base, c.at', c.phase, c.last, r, c.freq, 2⟩, 2, 0)
  else if r - c.since < 314572800 then (c, 2, 0)
  else (stp c r (rdV c r) o, 1, 0)
def new (r b f : Int) : Clk := ⟨b, r, 0, 0, 0, f, 0⟩
def newE (r b f : Int) : Int := if (0 ≤ r ∧ r ≤ 288230376151711744) ∧ (0 ≤ b ∧ b ≤ 288230376151711744) ∧ -500000 ≤ f ∧ f ≤ 500000 then 0 else 2
/-- a clock in order, behind k updates. -/
def In (k : Nat) (c : Clk) : Prop := (-500000 ≤ c.freq ∧ c.freq ≤ 500000) ∧ (-134217 ≤ c.phase ∧ c.phase ≤ 134217) ∧ (0 ≤ c.at' ∧ c.at' ≤ 288230376151711744 + 1099511627776 * k) ∧ (-(4398046511104 * k) ≤ c.base ∧ c.base ≤ 288230376151711744 + 4398046511104 * k) ∧ (0 ≤ c.last ∧ c.last ≤ c.at') ∧ (c.state = 0 ∨ c.state = 1 ∨ (c.state = 2 ∧ 0 ≤ c.since)) ∧ (c.state ≠ 2 ∨ c.since ≤ c.at' + 1099511627776) ∧ -9223372036854775808 ≤ c.since ∧ c.since ≤ 9223372036854775807
theorem In.read {k : Nat} {c : Clk} (h : In k c) {r : Int} (q : rdO c r) : -(4398046511104 * (k : Int)) ≤ rdV c r ∧ rdV c r ≤ 288230376151711744 + 4398046511104 * (k : Int) + 2199023255552 := by
  obtain ⟨h1, h2, h3, h4, _⟩ := h
  unfold rdO at q
  have a := xx_in (p := c.phase) h1 (show 0 ≤ r - c.at' by omega)
  have b := xx_rise (p := c.phase) h1 (Int.le_refl 0) (show 0 ≤ r - c.at' by omega)
  rw [xx_zero] at b
  unfold rdV
  omega
theorem fl_of {s a t : Int} (ha : 0 < a) (h1 : t * a ≤ s) (h2 : s < (t + 1) * a) : s / a = t := by
  have p := (Int.le_ediv_iff_mul_le ha).2 h1
  have q := (Int.ediv_lt_iff_lt_mul ha).2 h2
  omega
theorem fl_adj {s a : Int} (ha : 0 < a) : (s < s.tdiv a * a → s / a = s.tdiv a - 1) ∧ (¬ s < s.tdiv a * a → s / a = s.tdiv a) := by
  have e := Int.mul_tdiv_add_tmod s a
  have l1 := Int.tmod_lt_of_pos s ha
  have l2 := Int.lt_tmod_of_pos s ha
  rw [Int.mul_comm] at e
  refine ⟨fun h => fl_of ha ?_ ?_, fun h => fl_of ha (by omega) ?_⟩
  · rw [Int.sub_mul]; omega
  · rw [Int.sub_add_cancel]; exact h
  · rw [Int.add_mul]; omega
theorem tdiv_in {s a B : Int} (ha : 0 < a) (h1 : -B ≤ s) (h2 : s ≤ B) : -B ≤ s.tdiv a ∧ s.tdiv a ≤ B := by
  rcases Int.le_total 0 s with q | q
  · have := Int.tdiv_nonneg (a := s) (b := a) q (by omega)
    have : s.tdiv a ≤ s := by rw [Int.tdiv_eq_ediv_of_nonneg q]; exact Int.ediv_le_self _ q
    omega
  · have e : s.tdiv a = -((-s).tdiv a) := by rw [Int.neg_tdiv, Int.neg_neg]
    have := Int.tdiv_nonneg (a := -s) (b := a) (by omega) (by omega)
    have : (-s).tdiv a ≤ -s := by rw [Int.tdiv_eq_ediv_of_nonneg (by omega)]; exact Int.ediv_le_self _ (by omega)
    omega
/-- what an update leaves is in order. -/
theorem frq_in {c : Clk} (h : -500000 ≤ c.freq ∧ c.freq ≤ 500000) (r o : Int) : -500000 ≤ frq c r o ∧ frq c r o ≤ 500000 := by
  unfold frq
  split <;> omega
theorem In.upd {k : Nat} {c : Clk} (hk : k ≤ 1000) (h : In k c) (r o : Int) : In (k + 1) (upd c r o).1 := by
  unfold Ck.upd
  by_cases q : rdO c r
  · have rd := h.read q
    obtain ⟨h1, h2, h3, h4, h5, h6, h7, h8⟩ := h
    have fr := frq_in h1 r o
    rw [if_neg (fun z => z q)]
    unfold rdO at q
    unfold In
    split
    · simp only; refine ⟨⟨?_, ?_⟩, ⟨?_, ?_⟩, ⟨?_, ?_⟩, ⟨?_, ?_⟩, ⟨?_, ?_⟩, ?_, ?_, ?_, ?_⟩ <;> first | omega | (simp; done) | (simp; omega)
    · split
      · unfold stp bnd; simp only; refine ⟨⟨?_, ?_⟩, ⟨?_, ?_⟩, ⟨?_, ?_⟩, ⟨?_, ?_⟩, ⟨?_, ?_⟩, ?_, ?_, ?_, ?_⟩ <;> first | omega | (simp; done) | (simp; omega)
      · split
        · unfold slC; simp only; refine ⟨⟨?_, ?_⟩, ⟨?_, ?_⟩, ⟨?_, ?_⟩, ⟨?_, ?_⟩, ⟨?_, ?_⟩, ?_, ?_, ?_, ?_⟩ <;> first | omega | (simp; done) | (simp; omega)
        · split
          · simp only; refine ⟨⟨?_, ?_⟩, ⟨?_, ?_⟩, ⟨?_, ?_⟩, ⟨?_, ?_⟩, ⟨?_, ?_⟩, ?_, ?_, ?_, ?_⟩ <;> first | omega | (simp; done) | (simp; omega)
          · split
            · simp only; refine ⟨⟨?_, ?_⟩, ⟨?_, ?_⟩, ⟨?_, ?_⟩, ⟨?_, ?_⟩, ⟨?_, ?_⟩, ?_, ?_, ?_, ?_⟩ <;> first | omega | (simp; done) | (simp; omega)
            · unfold stp bnd; simp only; refine ⟨⟨?_, ?_⟩, ⟨?_, ?_⟩, ⟨?_, ?_⟩, ⟨?_, ?_⟩, ⟨?_, ?_⟩, ?_, ?_, ?_, ?_⟩ <;> first | omega | (simp; done) | (simp; omega)
  · rw [if_pos q]
    obtain ⟨h1, h2, h3, h4, h5, h6, h7, h8⟩ := h
    unfold In
    simp only
    refine ⟨⟨?_, ?_⟩, ⟨?_, ?_⟩, ⟨?_, ?_⟩, ⟨?_, ?_⟩, ⟨?_, ?_⟩, ?_, ?_, ?_, ?_⟩ <;> first | omega | (simp; done) | (simp; omega)
end Go.Proofs.Ytojcckikgnbgiaa.Ck
