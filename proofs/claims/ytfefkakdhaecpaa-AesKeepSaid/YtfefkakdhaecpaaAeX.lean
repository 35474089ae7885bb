/-
  What Encipher and CMAC answer, whatever is handed in, as strings; the document's answers likewise.
  Conditions: rows of bytes are handed in.
-/
import Derived.Test.YtfefkakdhaecpaaAeU
import Derived.Test.YtfefkakdhaecpaaAeW
namespace Go.Proofs.Ytfefkakdhaecpaa.Ae
open Go.RowKit By
set_option linter.unusedVariables false
set_option linter.unusedSimpArgs false

/-- v reads as the string S, now and later. -/
def Cv (w : World) (v : Value) (S : ByteArray) : Prop := ∀ w', Below w.heap.size w w' → (convert 22 9 v).run Try.prog w' = .ok (.string S) w'
theorem Cv.below {w w' : World} {v : Value} {S : ByteArray} (h : Cv w v S) (k : Below w.heap.size w w') : Cv w' v S := fun _ k' => h _ (bstep k k')
theorem Cv.here {w : World} {v : Value} {S : ByteArray} (h : Cv w v S) : (convert 22 9 v).run Try.prog w = .ok (.string S) w := h w (brefl w)
theorem Cv.bs {w : World} {b o n cap : Nat} {f : Nat → Nat} (B : Bs w b o n f) : Cv w (.slice (some ⟨b, o, none⟩) n cap) (bs8 (bl f n)) := fun _ k => conv_bs (B.below k) cap
theorem Cv.nil (w : World) (p : Option Addr) (c : Nat) : Cv w (.slice p 0 c) (bs8 []) := fun w' _ => conv_zero w' p c
theorem Cv.own {w : World} {base : Nat} {v : Value} {f : Nat → Nat} (h : Own w base v (bl f 16)) (hf : ∀ i, f i < 256) : Cv w v (bs8 (bl f 16)) := by
  obtain ⟨g, cp, rfl, _, B, _, _⟩ := OwnB h (by omega) hf
  exact Cv.bs B
theorem Bs.arg {w : World} {b n cap : Nat} {f : Nat → Nat} (B : Bs w b 0 n f) (h : n ≤ cap) (hc : cap ≤ 140737488351232) : Arg w (.slice (some ⟨b, 0, none⟩) n cap) n f :=
  ⟨_, _, rfl, h, hc, B.2.1, fun _ => ⟨b, 0, rfl, B⟩, fun h => by cases h⟩
/-- the error's number: a key, a block of sixteen bytes. -/
def cE (n m : Nat) : Int := if n = 16 ∧ m = 16 then 0 else 3
def sE (n m : Nat) (K B : Nat → Nat) : ByteArray := if n = 16 ∧ m = 16 then bs8 (bl (enc (kW K) B) 16) else bs8 []
def cC (n : Nat) : Int := if n = 16 then 0 else 3
def sC (n : Nat) (K M : Nat → Nat) (m : Nat) : ByteArray := if n = 16 then bs8 (bl (tg (kW K) M m) 16) else bs8 []
theorem Enc_any {w : World} {v0 v1 : Value} {n m : Nat} {K B : Nat → Nat} (A0 : Arg w v0 n K) (A1 : Arg w v1 m B) :
    Calls Try.prog 9 #[v0, v1] w fun e w' => ∃ v, e = .returned (.tuple #[v, .int .i64 (cE n m)]) ∧ Cv w' v (sE n m K B) ∧ Below w.heap.size w w' := by
  obtain ⟨p0, c0, rfl, h1, h2, h3, h4, h5⟩ := A0
  obtain ⟨p1, c1, rfl, g1, g2, g3, g4, g5⟩ := A1
  by_cases c : n = 16 ∧ m = 16
  · obtain ⟨rfl, rfl⟩ := c
    refine (Encipher_c p0 p1 c0 c1 K B w h4 g4 (fun i _ => h3 i) (fun i _ => g3 i)).mono ?_
    rintro e w' ⟨g, rfl, hg, ay, hb⟩
    exact ⟨_, rfl, Cv.bs (ay.bs (fun _ _ => rfl) (enc_all (kW_all h3))), hb⟩
  · unfold cE sE
    rw [if_neg c, if_neg c]
    refine (Encipher_bad p0 p1 n m c0 c1 w c).mono ?_
    rintro e w' ⟨rfl, hb⟩
    exact ⟨_, rfl, Cv.nil _ _ _, hb⟩
theorem rEnc_any {w : World} {v0 v1 : Value} {n m : Nat} {K B : Nat → Nat} (A0 : Arg w v0 n K) (A1 : Arg w v1 m B) :
    Calls Try.prog 10 #[v0, v1] w fun e w' => ∃ v, e = .returned (.tuple #[v, .int .i64 (cE n m)]) ∧ Cv w' v (sE n m K B) ∧ Below w.heap.size w w' := by
  obtain ⟨p0, c0, rfl, h1, h2, h3, h4, h5⟩ := A0
  obtain ⟨p1, c1, rfl, g1, g2, g3, g4, g5⟩ := A1
  by_cases c : n = 16 ∧ m = 16
  · obtain ⟨rfl, rfl⟩ := c
    obtain ⟨b0, o0, rfl, B0⟩ := h4 (by omega)
    obtain ⟨b1, o1, rfl, B1⟩ := g4 (by omega)
    refine (rEncipher_c b0 o0 c0 b1 o1 c1 K B w B0 B1).mono ?_
    rintro e w' ⟨⟨v, rfl, own⟩, hb⟩
    exact ⟨_, rfl, Cv.own own (enc_all (kW_all h3)), hb⟩
  · unfold cE sE
    rw [if_neg c, if_neg c]
    refine (rEncipher_bad p0 p1 n m c0 c1 w c).mono ?_
    rintro e w' ⟨rfl, hb⟩
    exact ⟨_, rfl, Cv.nil _ _ _, hb⟩
theorem rCMAC_bad (p p2 : Option Addr) (n m cap cap2 : Nat) (w : World) (h : ¬ n = 16) :
    Calls Try.prog 13 #[.slice p n cap, .slice p2 m cap2] w fun e w' => e = .returned (.tuple #[.slice none 0 0, .int .i64 3]) ∧ Below w.heap.size w w' := by
  have e0 : ((n : Int) == 16) = false := by simp; omega
  go_enter Try.func13, Try.ntmps13
  go_wp2_with fail
  go_ret2
  exact ⟨rfl, brefl w⟩
theorem CMAC_any {w : World} {v0 v1 : Value} {n m : Nat} {K M : Nat → Nat} (A0 : Arg w v0 n K) (A1 : Arg w v1 m M) :
    Calls Try.prog 12 #[v0, v1] w fun e w' => ∃ v, e = .returned (.tuple #[v, .int .i64 (cC n)]) ∧ Cv w' v (sC n K M m) ∧ Below w.heap.size w w' := by
  obtain ⟨p0, c0, rfl, h1, h2, h3, h4, h5⟩ := A0
  obtain ⟨p1, c1, rfl, g1, g2, g3, g4, g5⟩ := A1
  by_cases c : n = 16
  · subst c
    refine (CMAC_c p0 p1 m c0 c1 K M w h4 g4 (fun i _ => h3 i) g3 g1 (by omega)).mono ?_
    rintro e w' ⟨g, rfl, hg, ay, hb⟩
    exact ⟨_, rfl, Cv.bs (ay.bs (fun _ _ => rfl) (enc_all (kW_all h3))), hb⟩
  · unfold cC sC
    rw [if_neg c, if_neg c]
    refine (CMAC_bad p0 p1 n m c0 c1 w c).mono ?_
    rintro e w' ⟨rfl, hb⟩
    exact ⟨_, rfl, Cv.nil _ _ _, hb⟩
theorem rCMAC_any {w : World} {v0 v1 : Value} {n m : Nat} {K M : Nat → Nat} (A0 : Arg w v0 n K) (A1 : Arg w v1 m M) :
    Calls Try.prog 13 #[v0, v1] w fun e w' => ∃ v, e = .returned (.tuple #[v, .int .i64 (cC n)]) ∧ Cv w' v (sC n K M m) ∧ Below w.heap.size w w' := by
  obtain ⟨p0, c0, rfl, h1, h2, h3, h4, h5⟩ := A0
  have A1' := A1
  obtain ⟨p1, c1, rfl, g1, g2, g3, g4, g5⟩ := A1
  by_cases c : n = 16
  · subst c
    obtain ⟨b0, o0, rfl, B0⟩ := h4 (by omega)
    refine (rCMAC_c b0 o0 c0 p1 m c1 K M w B0 A1').mono ?_
    rintro e w' ⟨⟨v, rfl, own⟩, hb⟩
    exact ⟨_, rfl, Cv.own own (enc_all (kW_all h3)), hb⟩
  · unfold cC sC
    rw [if_neg c, if_neg c]
    refine (rCMAC_bad p0 p1 n m c0 c1 w c).mono ?_
    rintro e w' ⟨rfl, hb⟩
    exact ⟨_, rfl, Cv.nil _ _ _, hb⟩
/-- fit, of a row of bytes that came in. -/
theorem fit_any {w0 w : World} {v : Value} {n : Nat} {f : Nat → Nat} (A : Arg w0 v n f) (k : Below w0.heap.size w0 w) :
    Calls Try.prog 11 #[v, .int .i64 16] w fun e w' => ∃ g, e = .returned (.slice (some ⟨g, 0, none⟩) 16 16) ∧ w.heap.size ≤ g ∧ Bs w' g 0 16 (pad0 f n) ∧ Below w.heap.size w w' := by
  obtain ⟨p0, c0, rfl, h1, h2, h3, h4, h5⟩ := A.below k
  refine (fit_c p0 n c0 f w h4 h3 (by omega)).mono ?_
  rintro e w' ⟨rfl, B, hb⟩
  exact ⟨_, rfl, Nat.le_refl _, B, hb⟩
end Go.Proofs.Ytfefkakdhaecpaa.Ae
