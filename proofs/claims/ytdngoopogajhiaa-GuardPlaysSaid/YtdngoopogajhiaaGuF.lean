/-
  Rules, acts, addresses and times in memory, as the laws of a guard are handed them.
  Conditions: none.
-/
import Derived.Test.YtdngoopogajhiaaGuA
namespace Go.Proofs.Ytdngoopogajhiaa.Gu
open Go.RowKit Go.ChangeShapes Go.WideShapes Go.ChangeAt Go.Joins Fl
set_option linter.unusedVariables false
set_option linter.unusedSimpArgs false

/-- an act. -/
structure Ac where
  addr : Int
  mode : Int
  more : Int
instance : Inhabited Ac := ⟨⟨0, 0, 0⟩⟩
abbrev AV (c : Ac) : Value := .agg #[.int .u32 c.addr, .int .i64 c.mode, .int .i64 c.more]
def avs (c : Ac) : List Value := [.int .u32 c.addr, .int .i64 c.mode, .int .i64 c.more]
def uvs (x : Int) : List Value := [.int .u32 x]
def tvs (x : Int) : List Value := [.int .i64 x]
theorem oka : Gn.Ok avs 3 := ⟨fun _ => rfl, fun x u hu => by simp [avs] at hu; rcases hu with rfl | rfl | rfl <;> rfl, by decide⟩
theorem oku : Gn.Ok uvs 1 := ⟨fun _ => rfl, fun x u hu => by simp [uvs] at hu; subst hu; rfl, by decide⟩
theorem okt : Gn.Ok tvs 1 := ⟨fun _ => rfl, fun x u hu => by simp [tvs] at hu; subst hu; rfl, by decide⟩
def uA (c : Ac) : Prop := (0 ≤ c.addr ∧ c.addr ≤ 4294967295) ∧ (-9223372036854775808 ≤ c.mode ∧ c.mode ≤ 9223372036854775807) ∧ -9223372036854775808 ≤ c.more ∧ c.more ≤ 9223372036854775807
def u32P (x : Int) : Prop := 0 ≤ x ∧ x ≤ 4294967295
def i64P (x : Int) : Prop := -9223372036854775808 ≤ x ∧ x ≤ 9223372036854775807
theorem cellsI : Try.prog.cellsOf 3 = 1 := by kernel_rfl
theorem cellsU : Try.prog.cellsOf 34 = 1 := by kernel_rfl
theorem cellsT : Try.prog.cellsOf 37 = 1 := by kernel_rfl
theorem list3 {α : Type} : ∀ {l : List α}, l.length = 3 → ∃ a0 a1 a2, l = [a0, a1, a2]
  | [_, _, _], _ => ⟨_, _, _, rfl⟩
theorem list1 {α : Type} : ∀ {l : List α}, l.length = 1 → ∃ a0, l = [a0]
  | [_], _ => ⟨_, rfl⟩
set_option maxRecDepth 100000 in
theorem open_rule {H : Type} {enc : TypeId × Value → H} {W : World} (fuel : Nat) (l : List Value) (x : DataW H × List MemPlace) (hl : l.length = 3) (hf : DataW.trod enc Try.prog W 0 (fun _ => true) true fuel 62 l = some x) :
    ∃ s, l = rvs s ∧ uR s := by
  obtain ⟨c0, c1, c2, rfl⟩ := list3 hl
  obtain ⟨xs, n, _, hx, hl, hlen, hg⟩ := DataW.trod_struct Try.underlying62 hf
  match xs, hlen with
  | [x0, x1, x2], _ =>
    subst hx
    have g0 := hg 0 _ rfl
    have g1 := hg 1 _ rfl
    have g2 := hg 2 _ rfl
    simp [Value.cells, cellsU, cellsI] at g0 g1 g2
    obtain ⟨a0, e0, _, w0⟩ := DataW.trod_int Try.underlying34 g0
    obtain ⟨a1, e1, _, w1⟩ := DataW.trod_int Try.underlying34 g1
    obtain ⟨a2, e2, _, w2⟩ := DataW.trod_int Try.underlying3 g2
    simp only [List.cons.injEq, and_true] at e0 e1 e2
    exact ⟨⟨a0, a1, a2⟩, by rw [e0, e1, e2]; rfl, bounds_u32 w0, bounds_u32 w1, bounds_i64 w2⟩
set_option maxRecDepth 100000 in
theorem open_gact {H : Type} {enc : TypeId × Value → H} {W : World} (fuel : Nat) (l : List Value) (x : DataW H × List MemPlace) (hl : l.length = 3) (hf : DataW.trod enc Try.prog W 0 (fun _ => true) true fuel 39 l = some x) :
    ∃ s, l = avs s ∧ uA s := by
  obtain ⟨c0, c1, c2, rfl⟩ := list3 hl
  obtain ⟨xs, n, _, hx, hl, hlen, hg⟩ := DataW.trod_struct Try.underlying39 hf
  match xs, hlen with
  | [x0, x1, x2], _ =>
    subst hx
    have g0 := hg 0 _ rfl
    have g1 := hg 1 _ rfl
    have g2 := hg 2 _ rfl
    simp [Value.cells, cellsU, cellsI, cellsT] at g0 g1 g2
    obtain ⟨a0, e0, _, w0⟩ := DataW.trod_int Try.underlying34 g0
    obtain ⟨a1, e1, _, w1⟩ := DataW.trod_int Try.underlying3 g1
    obtain ⟨a2, e2, _, w2⟩ := DataW.trod_int Try.underlying37 g2
    simp only [List.cons.injEq, and_true] at e0 e1 e2
    exact ⟨⟨a0, a1, a2⟩, by rw [e0, e1, e2]; rfl, bounds_u32 w0, bounds_i64 w1, bounds_i64 w2⟩
theorem open_u32 {H : Type} {enc : TypeId × Value → H} {W : World} (fuel : Nat) (l : List Value) (x : DataW H × List MemPlace) (hl : l.length = 1) (hf : DataW.trod enc Try.prog W 0 (fun _ => true) true fuel 34 l = some x) :
    ∃ s, l = uvs s ∧ u32P s := by
  obtain ⟨c0, rfl⟩ := list1 hl
  obtain ⟨a0, e0, _, w0⟩ := DataW.trod_int Try.underlying34 hf
  simp only [List.cons.injEq, and_true] at e0
  exact ⟨a0, by rw [e0]; rfl, bounds_u32 w0⟩
theorem open_time {H : Type} {enc : TypeId × Value → H} {W : World} (fuel : Nat) (l : List Value) (x : DataW H × List MemPlace) (hl : l.length = 1) (hf : DataW.trod enc Try.prog W 0 (fun _ => true) true fuel 37 l = some x) :
    ∃ s, l = tvs s ∧ i64P s := by
  obtain ⟨c0, rfl⟩ := list1 hl
  obtain ⟨a0, e0, _, w0⟩ := DataW.trod_int Try.underlying37 hf
  simp only [List.cons.injEq, and_true] at e0
  exact ⟨a0, by rw [e0]; rfl, bounds_i64 w0⟩
section
variable {H : Type} {enc : TypeId × Value → H} {W : World} {base : Nat} {v : Value} {d : DataW H} {pl : List MemPlace}
theorem open_rs (hv : Value.okWide Try.prog W .any base 22 v) (h : DataW.Trod enc Try.prog W 0 (fun _ => true) true 22 v d pl) (hs : ∀ es sp, d = .slice es sp → (es.length + sp.length) * Try.prog.bytesOf 62 ≤ reachBytes) : ∃ L, Gn.Ss rvs 3 W v L ∧ (∀ s ∈ L, uR s) ∧ L.length * 16 ≤ 140737488351232 :=
  Gn.open_rows okr Try.underlying22 (by kernel_rfl) (by kernel_rfl) open_rule hv h hs
theorem open_acts (hv : Value.okWide Try.prog W .any base 23 v) (h : DataW.Trod enc Try.prog W 0 (fun _ => true) true 23 v d pl) (hs : ∀ es sp, d = .slice es sp → (es.length + sp.length) * Try.prog.bytesOf 39 ≤ reachBytes) : ∃ L, Gn.Ss avs 3 W v L ∧ (∀ s ∈ L, uA s) ∧ L.length * 24 ≤ 140737488351232 :=
  Gn.open_rows oka Try.underlying23 (by kernel_rfl) (by kernel_rfl) open_gact hv h hs
theorem open_us (hv : Value.okWide Try.prog W .any base 57 v) (h : DataW.Trod enc Try.prog W 0 (fun _ => true) true 57 v d pl) (hs : ∀ es sp, d = .slice es sp → (es.length + sp.length) * Try.prog.bytesOf 34 ≤ reachBytes) : ∃ L, Gn.Ss uvs 1 W v L ∧ (∀ s ∈ L, u32P s) ∧ L.length * 4 ≤ 140737488351232 :=
  Gn.open_rows oku Try.underlying57 (by kernel_rfl) (by kernel_rfl) open_u32 hv h hs
theorem open_ts (hv : Value.okWide Try.prog W .any base 59 v) (h : DataW.Trod enc Try.prog W 0 (fun _ => true) true 59 v d pl) (hs : ∀ es sp, d = .slice es sp → (es.length + sp.length) * Try.prog.bytesOf 37 ≤ reachBytes) : ∃ L, Gn.Ss tvs 1 W v L ∧ (∀ s ∈ L, i64P s) ∧ L.length * 8 ≤ 140737488351232 :=
  Gn.open_rows okt Try.underlying59 (by kernel_rfl) (by kernel_rfl) open_time hv h hs
end
end Go.Proofs.Ytdngoopogajhiaa.Gu
