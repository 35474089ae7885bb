/-
  Calls that come in, and rows of them; rows of bools.
  Conditions: none.
-/
import Derived.SizedLaws
import Derived.Deep.SlicePairs
import Derived.Test.YtpnphmfpandmkaaDkI
namespace Go.Proofs.Ytpnphmfpandmkaa.Dk
open Go.RowKit Go.ChangeShapes Go.WideShapes Go.ChangeAt Go.Joins Go.Maps By Ct
set_option linter.unusedVariables false
set_option linter.unusedSimpArgs false

/-- a call. -/
structure Ac where
  k : Int
  n : Int
  p : Int
  a : ByteArray
  b : ByteArray
  dat : List Nat
def ac0 : Ac := ⟨0, 0, 0, ByteArray.empty, ByteArray.empty, []⟩
def avs (x : Ac) (dv : Value) : List Value := [.int .i64 x.k, .int .i64 x.n, .int .i64 x.p, .string x.a, .string x.b, dv]
abbrev AV (x : Ac) (dv : Value) : Value := .agg #[.int .i64 x.k, .int .i64 x.n, .int .i64 x.p, .string x.a, .string x.b, dv]
/-- its numbers are ints. -/
def Bd (x : Ac) : Prop := (-9223372036854775808 ≤ x.k ∧ x.k ≤ 9223372036854775807) ∧ (-9223372036854775808 ≤ x.n ∧ x.n ≤ 9223372036854775807) ∧ (-9223372036854775808 ≤ x.p ∧ x.p ≤ 9223372036854775807) ∧ x.a.size ≤ maxLen ∧ x.b.size ≤ maxLen
theorem bounds_i64 {a : Int} (h : (Lit.int .i64 a).wf = true) : -9223372036854775808 ≤ a ∧ a ≤ 9223372036854775807 := by
  simp [Lit.wf, IntKind.min, IntKind.max, IntKind.bits, IntKind.signed] at h
  omega
theorem cellsI : Try.prog.cellsOf 3 = 1 := by kernel_rfl
theorem cellsT : Try.prog.cellsOf 9 = 1 := by kernel_rfl
theorem cellsS : Try.prog.cellsOf 29 = 1 := by kernel_rfl
theorem cellsA : Try.prog.cellsOf 31 = 6 := by kernel_rfl
theorem info_act : (Try.prog.info? 31).map (·.size) = some 6 := by kernel_rfl
set_option maxRecDepth 100000 in
theorem open_sl {H : Type} {enc : TypeId × Value → H} {W : World} {fuel : Nat} {v : Value} {x : DataW H × List MemPlace} (hf : DataW.trod enc Try.prog W 0 (fun _ => true) true fuel 29 [v] = some x)
    (hw : ∀ y ∈ DataW.weights Try.prog 29 x.1, y ≤ reachBytes) : ∃ l, Sl W v l := by
  obtain ⟨n, f, S⟩ := open_sb hf
  refine ⟨bl f n, sb_sl S ?_⟩
  obtain ⟨sa, scap, rfl, _⟩ := S
  rcases open_ints Try.underlying29 Try.underlying5 cells5 hf with ⟨hcs, hx⟩ | ⟨a, len, cap, zs, hcs, _, hl, hm, hz, hx, hcell, hwz⟩
  · simp only [List.cons.injEq, Value.slice.injEq, and_true] at hcs
    omega
  · simp only [List.cons.injEq, Value.slice.injEq, and_true] at hcs
    obtain ⟨rfl, rfl, rfl⟩ := hcs
    simp only [if_true] at hz
    subst hx
    have hb := hw (((lits .u8 (zs.take n) : List (DataW H)).length + (lits .u8 (zs.drop n) : List (DataW H)).length) * Try.prog.bytesOf 5) (by
      show _ ∈ DataW.weights Try.prog 29 (.slice _ _)
      rw [DataW.weights, Try.underlying29]
      exact List.mem_cons_self ..)
    rw [bytes5, Nat.mul_one] at hb
    have hlen : (lits .u8 (zs.take n) : List (DataW H)).length + (lits .u8 (zs.drop n) : List (DataW H)).length = scap := by simp [lits]; omega
    rw [hlen] at hb
    unfold reachBytes at hb
    omega
theorem list6 {α : Type} : ∀ {l : List α}, l.length = 6 → ∃ a0 a1 a2 a3 a4 a5, l = [a0, a1, a2, a3, a4, a5]
  | [_, _, _, _, _, _], _ => ⟨_, _, _, _, _, _, rfl⟩
set_option maxRecDepth 100000 in
set_option maxHeartbeats 2000000 in
theorem open_as {H : Type} {enc : TypeId × Value → H} {W : World} {fuel : Nat} {l : List Value} (hl : l.length = 6) {x : DataW H × List MemPlace} (hf : DataW.trod enc Try.prog W 0 (fun _ => true) true fuel 31 l = some x)
    (hw : ∀ y ∈ DataW.weights Try.prog 31 x.1, y ≤ reachBytes) : ∃ f dv, l = avs f dv ∧ Bd f ∧ Sl W dv f.dat := by
  obtain ⟨c0, c1, c2, c3, c4, c5, rfl⟩ := list6 hl
  obtain ⟨xs, n, _, hx, hl, hlen, hg⟩ := DataW.trod_struct Try.underlying31 hf
  match xs, hlen with
  | [x0, x1, x2, x3, x4, x5], _ =>
    subst hx
    have g0 := hg 0 _ rfl
    have g1 := hg 1 _ rfl
    have g2 := hg 2 _ rfl
    have g3 := hg 3 _ rfl
    have g4 := hg 4 _ rfl
    have g5 := hg 5 _ rfl
    simp [Value.cells, cellsI, cellsT, cellsS] at g0 g1 g2 g3 g4 g5
    obtain ⟨a0, e0, _, w0⟩ := DataW.trod_int Try.underlying3 g0
    obtain ⟨a1, e1, _, w1⟩ := DataW.trod_int Try.underlying3 g1
    obtain ⟨a2, e2, _, w2⟩ := DataW.trod_int Try.underlying3 g2
    obtain ⟨a3, e3, _, w3⟩ := DataW.trod_string Try.underlying9 g3
    obtain ⟨a4, e4, _, w4⟩ := DataW.trod_string Try.underlying9 g4
    obtain ⟨dg, D⟩ := open_sl g5 fun y hy => hw y (by
      show y ∈ DataW.weights Try.prog 31 (.agg [x0.1, x1.1, x2.1, x3.1, x4.1, x5.1])
      rw [DataW.weights, Try.underlying31]
      show y ∈ DataW.weightsEach Try.prog [3, 3, 3, 9, 9, 29] [x0.1, x1.1, x2.1, x3.1, x4.1, x5.1]
      iterate 6 rw [DataW.weightsEach]
      iterate 5 refine List.mem_append_right _ ?_
      exact List.mem_append_left _ hy)
    simp only [List.cons.injEq, and_true] at e0 e1 e2 e3 e4
    exact ⟨⟨a0, a1, a2, a3, a4, dg⟩, c5, by rw [e0, e1, e2, e3, e4]; rfl, ⟨bounds_i64 w0, bounds_i64 w1, bounds_i64 w2, w3, w4⟩, D⟩
set_option maxRecDepth 100000 in
theorem open_act {H : Type} {enc : TypeId × Value → H} {W : World} {base : Nat} {v : Value} {d : DataW H} {pl : List MemPlace}
    (hv : Value.okWide Try.prog W .any base 31 v) (h : DataW.Trod enc Try.prog W 0 (fun _ => true) true 31 v d pl)
    (hw : ∀ y ∈ DataW.weights Try.prog 31 d, y ≤ reachBytes) : ∃ f dv, v = AV f dv ∧ Bd f ∧ Sl W dv f.dat := by
  obtain ⟨cs, rfl, hsz⟩ := okWide_struct Try.underlying31 hv
  obtain ⟨l⟩ := cs
  obtain ⟨fuel, hf⟩ := h
  obtain ⟨f, dv, e, F⟩ := open_as (l := l) (by simpa using hsz.trans cellsA) hf hw
  subst e
  exact ⟨f, dv, rfl, F⟩
/-- the value v is a row of the calls L, each with its data's value. -/
def Al (w : World) (v : Value) (L : List (Ac × Value)) : Prop :=
  ∃ a cap, v = .slice a L.length cap ∧ L.length ≤ cap ∧ cap ≤ 9223372036854775807 ∧ (0 < L.length → ∃ b off, a = some ⟨b, off, none⟩ ∧ b < w.heap.size ∧ ∀ j, j < L.length → ∀ k, k < 6 → w.cell? ⟨b, off + j * 6 + k, none⟩ = (avs (L.getD j (ac0, .slice none 0 0)).1 (L.getD j (ac0, .slice none 0 0)).2)[k]?) ∧ ∀ x ∈ L, Bd x.1 ∧ Sl w x.2 x.1.dat
theorem Al.below {w w' : World} {v : Value} {L : List (Ac × Value)} (h : Al w v L) (q : Below w.heap.size w w') : Al w' v L := by
  obtain ⟨a, cap, e, h1, h2, h3, h4⟩ := h
  refine ⟨a, cap, e, h1, h2, fun hn => ?_, fun x hx => ⟨(h4 x hx).1, (h4 x hx).2.below q⟩⟩
  obtain ⟨b, off, ea, hb, B⟩ := h3 hn
  exact ⟨b, off, ea, Nat.lt_of_lt_of_le hb q.size, fun j hj k hk => (q.cell (p := ⟨b, off + j * 6 + k, none⟩) hb).trans (B j hj k hk)⟩
theorem Al.form {w : World} {v : Value} {L : List (Ac × Value)} (h : Al w v L) : ∃ a cap, v = .slice a L.length cap := by
  obtain ⟨a, cap, e, _⟩ := h
  exact ⟨a, cap, e⟩
theorem al_at {w : World} {a : Option Addr} {cap : Nat} {L : List (Ac × Value)} (F : Al w (.slice a L.length cap) L) {j : Nat} {x : Ac × Value} (h : L[j]? = some x) : ∃ b off, a = some ⟨b, off, none⟩ ∧ b < w.heap.size ∧ w.rangeAt b (off + j * 6) (avs x.1 x.2) ∧ Bd x.1 ∧ Sl w x.2 x.1.dat := by
  obtain ⟨hj, e⟩ := List.getElem?_eq_some_iff.1 h
  obtain ⟨a', cap', ev, _, _, hB, hS⟩ := F
  cases ev
  obtain ⟨b, off, ea, hb, B⟩ := hB (by omega)
  refine ⟨b, off, ea, hb, fun i v hi => ?_, hS x (by rw [← e]; exact List.getElem_mem hj)⟩
  have hi6 : i < 6 := (List.getElem?_eq_some_iff.1 hi).1
  rw [B j hj i hi6, List.getD_eq_getElem?_getD, h, Option.getD_some]
  exact hi
theorem weightsAll_mem {H : Type} {P : Program} {e : TypeId} {d : DataW H} {y : Nat} (hy : y ∈ d.weights P e) : ∀ {l : List (DataW H)}, d ∈ l → y ∈ DataW.weightsAll P e l
  | x :: r, h => by
    rw [DataW.weightsAll]
    rcases List.mem_cons.1 h with rfl | h
    · exact List.mem_append_left _ hy
    · exact List.mem_append_right _ (weightsAll_mem hy h)
theorem nil_al (w : World) : Al w (.slice none 0 0) [] := ⟨none, 0, rfl, Nat.le_refl _, by omega, fun h => absurd h (by simp), fun j h => absurd h (by simp)⟩
set_option maxRecDepth 100000 in
theorem open_acts {H : Type} {enc : TypeId × Value → H} {W : World} {base : Nat} {v : Value} {d : DataW H} {pl : List MemPlace}
    (hv : Value.okWide Try.prog W .any base 22 v) (h : DataW.Trod enc Try.prog W 0 (fun _ => true) true 22 v d pl)
    (hw : ∀ y ∈ DataW.weights Try.prog 22 d, y ≤ reachBytes) : ∃ L, Al W v L := by
  obtain ⟨a0, len0, cap0, rfl⟩ := okWide_slice Try.underlying22 hv
  obtain ⟨fuel, hf⟩ := h
  have hf' : DataW.trod enc Try.prog W 0 (fun _ => true) true fuel 22 [.slice a0 len0 cap0] = some (d, pl) := by simpa [Value.cells] using hf
  rcases Go.Deep.open_slice Try.underlying22 hf' with ⟨hcs, _⟩ | ⟨a, len, cap, m, n, D, Pl, hcs, _, hl, hm, hmm, hx, hall⟩
  · simp only [List.cons.injEq, and_true] at hcs
    rw [hcs]
    exact ⟨[], nil_al W⟩
  · simp only [List.cons.injEq, and_true] at hcs
    rw [hcs]
    simp only [if_true] at hmm
    subst hmm
    simp only [Prod.mk.injEq] at hx
    have hwi : ∀ i, i < len → ∀ y ∈ DataW.weights Try.prog 31 (D i), y ≤ reachBytes := fun i hi y hy => hw y (by
      rw [hx.1]
      show y ∈ DataW.weights Try.prog 22 (.slice _ _)
      rw [DataW.weights, Try.underlying22]
      exact List.mem_cons_of_mem _ (List.mem_append_left _ (weightsAll_mem hy (List.mem_map.2 ⟨i, List.mem_range.2 hi, rfl⟩))))
    have each : ∀ i, i < len → ∃ k : Ac × Value, (∀ j, j < 6 → W.cell? ((a.add (i * 6)).add j) = (avs k.1 k.2)[j]?) ∧ Bd k.1 ∧ Sl W k.2 k.1.dat := by
      intro i hi
      obtain ⟨cs', h1, h2⟩ := hall i (by omega)
      rw [cellsA] at h1
      obtain ⟨_, hlen, hcell⟩ := World.cells?_some h1
      obtain ⟨f, dv, e, F⟩ := open_as hlen h2 (hwi i hi)
      subst e
      exact ⟨(f, dv), fun j hj => by have := hcell j (by simpa using hj); simpa using this, F⟩
    haveI : Inhabited (Ac × Value) := ⟨(ac0, .slice none 0 0)⟩
    obtain ⟨K, hK⟩ := Go.Deep.choose_lt each
    have hlen : ((List.range len).map fun i => K i).length = len := by simp
    have hget : ∀ j, j < len → ((List.range len).map fun i => K i).getD j (ac0, .slice none 0 0) = K j := fun j hj => by simp [List.getD_eq_getElem?_getD, hj]
    refine ⟨(List.range len).map fun i => K i, some a, m, by rw [hlen], by rw [hlen]; exact hl, by unfold maxLen at hm; omega, fun hn => ?_, fun x hx => ?_⟩
    · rw [hlen] at hn
      have c0 : W.cell? ((a.add (0 * 6)).add 0) = some (.int .i64 (K 0).1.k) := (hK 0 hn).1 0 (by omega)
      obtain ⟨b, off, s⟩ := a
      have sp : s = none := by simpa [Addr.add] using World.cell?_spot c0
      subst sp
      refine ⟨b, off, rfl, World.block_lt_of_cell? W _ (show W.cell? ⟨b, off, none⟩ = some _ by simpa [Addr.add] using c0), fun j hj k hk => ?_⟩
      rw [hlen] at hj
      rw [hget j hj]
      have q := (hK j hj).1 k hk
      rw [add_plain, add_plain] at q
      exact q
    · obtain ⟨i, hi, rfl⟩ := List.mem_map.1 hx
      exact (hK i (List.mem_range.1 hi)).2
end Go.Proofs.Ytpnphmfpandmkaa.Dk
