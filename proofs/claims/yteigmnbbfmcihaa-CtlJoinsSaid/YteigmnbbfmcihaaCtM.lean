/-
  Encode of whatever frame; what Decode answers is a frame in memory.
  Conditions: none.
-/
import Derived.Test.YteigmnbbfmcihaaCtL
namespace Go.Proofs.Yteigmnbbfmcihaa.Ct
open Go.RowKit Go.ChangeShapes Go.WideShapes Go.ChangeAt Go.Joins By
set_option linter.unusedVariables false
set_option linter.unusedSimpArgs false

/-- what Encode answers. -/
def ee (f : Fr) : Int := if okFr f = true then 0 else 3
def el (f : Fr) : List Nat := if okFr f = true then enc f else []
def PEnc (f : Fr) (w : World) (e : Ending) (w' : World) : Prop := (∃ v, e = .returned (.tuple #[v, .int .i64 (ee f)]) ∧ Own w' w.heap.size v (el f)) ∧ Below w.heap.size w w'
theorem el_byte {f : Fr} (h : ∀ x ∈ f.dat, x < 256) : ∀ x ∈ el f, x < 256 := by
  unfold el
  split
  · rename_i c; exact enc_byte c h
  · intro x hx; cases hx
theorem Encode_any {f : Fr} {dv : Value} {w : World} (P : Fm w f dv) : Calls Try.prog 9 #[FV f dv] w fun e w' => PEnc f w e w' := by
  unfold PEnc ee el
  cases c : okFr f with
  | true => simpa using Encode_yes P c
  | false => exact (Encode_no P c).mono fun e w' ⟨h1, h2⟩ => ⟨⟨_, h1, Own.nil _ _⟩, h2⟩
theorem rEncode_any {f : Fr} {dv : Value} {w : World} (P : Fm w f dv) : Calls Try.prog 10 #[FV f dv] w fun e w' => PEnc f w e w' := by
  unfold PEnc ee el
  cases c : okFr f with
  | true => simpa using rEncode_yes P c
  | false => exact (rEncode_no P c).mono fun e w' ⟨h1, h2⟩ => ⟨⟨_, h1, Own.nil _ _⟩, h2⟩
theorem dfr_dat {f : Nat → Nat} (hf : ∀ i, f i < 256) (n : Nat) : (∀ x ∈ (dfr f n).dat, x < 256) ∧ (dfr f n).dat.length ≤ 468 := by
  by_cases h : derr f n = 0
  · obtain ⟨_, _, h3, h4, h5⟩ := enc_dec hf h
    rw [dfr_yes h]
    exact ⟨h5, by omega⟩
  · rw [dfr_no h]
    exact ⟨fun x hx => (by cases hx), Nat.zero_le _⟩
theorem dec_fm {f : Nat → Nat} (hf : ∀ i, f i < 256) {n : Nat} {w : World} {base : Nat} {dv : Value} (O : Own w base dv (dfr f n).dat) : Fm w (dfr f n) dv :=
  out_sl (own_out O (dfr_dat hf n).1) (by have := (dfr_dat hf n).2; omega)
theorem load_mid_gd {P : Program} {ops : Array Oper} {rest : List Oper} {op : Oper} {a : Act} {w : World} {Q : Exit → Act → World → Prop} (hw : Region.wanted op (yielded ops a.tmps) = true) (ty : TypeId) (x : Operand) (ho : op.op = .load ty x)
    (b o : Nat) (hx : a.eval x = .pointer (some ⟨b, o, none⟩)) (cs : List Value) (d : TypeDesc) (hc : w.rangeAt b o cs)
    (hu : P.underlying ty = some d) (hd : d.isRow = true) (hi : (P.info? ty).map (·.size) = some cs.length)
    (h : wpList P ops Q rest (a.put op.dst (.agg cs.toArray)) w) : wpList P ops Q (op :: rest) a w := load_mid_g hw ty x ho b o hx cs d hc hu hd hi h
end Go.Proofs.Yteigmnbbfmcihaa.Ct
