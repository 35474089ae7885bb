/-
  What Decode answers is a packet in memory.
  Conditions: none.
-/
import Derived.Test.YtmjbnbjkpimjmaaWiY
namespace Go.Proofs.Ytmjbnbjkpimjmaa.Wi
open Go.RowKit Go.ChangeShapes Go.WideShapes Go.ChangeAt Go.Joins By
set_option linter.unusedVariables false
set_option linter.unusedSimpArgs false

theorem tot_mem (n : Nat) : ∀ {l : List Fd} {x : Fd}, x ∈ l → x.2.length ≤ tot n l
  | [], _, h => by cases h
  | y :: r, x, h => by
    rw [tot]
    rcases List.mem_cons.1 h with rfl | h
    · omega
    · have := tot_mem n h; omega
theorem kind0 : pk0.kind := ⟨by decide, by decide, by decide, by decide, by decide, by decide, by decide, by decide, fun x h => (by cases h), fun f h => (by cases h)⟩
/-- the numbers of what bytes tell. -/
theorem dec_kind {f : Nat → Nat} (hf : ∀ i, f i < 256) (n : Nat) : (dec f n).p.kind ∧ (∀ x ∈ (dec f n).p.fs, x.2.length ≤ 1024) ∧ (dec f n).p.dig.length ≤ 1024 := by
  rcases dec_err f n with h | ⟨_, h⟩
  · obtain ⟨q, a, hd⟩ := dec_is0 h
    obtain ⟨h1, h2, h3, h4, h5, h6, h7⟩ := enc_dec hf hd
    obtain ⟨_, m, ht, _, _, hs⟩ := rt_cut h1
    rw [hd]
    refine ⟨h2, fun x hx => by have : x.2.length ≤ tot m q.fs := tot_mem m hx; omega, ?_⟩
    show q.dig.length ≤ 1024
    have := dig_len ht
    omega
  · rw [h]
    exact ⟨kind0, fun x hx => (by cases hx), by show 0 ≤ 1024; omega⟩
theorem dec_pm {f : Nat → Nat} (hf : ∀ i, f i < 256) {n : Nat} {w : World} {base : Nat} {fv dv : Value} {row : List (Int × Value)} (R : Rowd w base fv row (dec f n).p.fs) (O : By.Own w base dv (dec f n).p.dig) : ∃ V, Pm w (dec f n).p fv dv V := by
  obtain ⟨k, h1, h2⟩ := dec_kind hf n
  exact ⟨_, R.fs (fun x hx => ⟨by have := h1 x hx; omega, k.2.2.2.2.2.2.2.2.2 x hx⟩), out_sl (own_out O k.2.2.2.2.2.2.2.2.1) (by omega), k⟩
end Go.Proofs.Ytmjbnbjkpimjmaa.Wi
