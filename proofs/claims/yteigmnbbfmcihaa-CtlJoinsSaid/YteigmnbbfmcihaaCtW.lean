/-
  A row of frames, sorted by Offset.
  Conditions: none.
-/
import Derived.Test.YteigmnbbfmcihaaCtV
import Derived.Shelf.SlSortCmp.WholeK
import Derived.Shelf.SlicesG.Cmp
namespace Go.Proofs.Yteigmnbbfmcihaa.Ct
open Go.RowKit Go.ChangeShapes Go.WideShapes Go.ChangeAt Go.Joins By Go.Shelf
set_option linter.unusedVariables false
set_option linter.unusedSimpArgs false

/-- a frame with its data's slice. -/
abbrev El := Fr × Option Addr × Nat
def elv (x : El) : Fr × Value := (x.1, .slice x.2.1 x.1.dat.length x.2.2)
def encE (x : El) : List Value := fvs x.1 (.slice x.2.1 x.1.dat.length x.2.2)
instance : Inhabited El := ⟨(fr0, none, 0)⟩
def cmpE (x y : El) : Int := Lib.compareInt x.1.off y.1.off
theorem ltE (x y : El) : ltOf cmpE x y = decide (x.1.off < y.1.off) := by
  unfold ltOf cmpE Lib.compareInt
  by_cases h1 : x.1.off < y.1.off
  · simp [h1]
  · by_cases h2 : y.1.off < x.1.off <;> simp [h1, h2]
theorem swoE : Go.Sort.SWO (ltOf cmpE) where
  irrefl x := by rw [ltE]; simp
  trans x y z h1 h2 := by rw [ltE] at *; simp at *; omega
  ntrans x y z h1 h2 := by rw [ltE] at *; simp at *; omega
theorem elv_all {w : World} : ∀ (L : List (Fr × Value)), (∀ x ∈ L, Sl w x.2 x.1.dat) → ∃ M : List El, M.map elv = L
  | [], _ => ⟨[], rfl⟩
  | x :: r, h => by
    obtain ⟨M, hM⟩ := elv_all r fun y hy => h y (List.mem_cons_of_mem _ hy)
    obtain ⟨a, c, e⟩ := (h x (by simp)).form
    exact ⟨(x.1, a, c) :: M, by rw [List.map_cons, hM]; show (x.1, Value.slice a x.1.dat.length c) :: r = _; rw [← e]⟩
set_option maxRecDepth 100000 in
set_option maxHeartbeats 2000000 in
theorem closure_c (x y : El) (W : World) : Calls Try.prog 35 #[.agg (encE x).toArray, .agg (encE y).toArray] W fun e w' => e = .returned (.int .i64 (cmpE x y)) ∧ ∃ q os', w' = Go.Sort.grow (W.drewN q) os' := by
  have hcon := fun W' => AnyG.cmp_Compare_int cmpInt x.1.off y.1.off W'
  change ∀ W', Calls Try.prog 36 _ _ _ at hcon
  unfold cmpE
  obtain ⟨⟨a0, a1, a2, a3, a4, a5, a6, a7, a8, d⟩, xa, xc⟩ := x
  obtain ⟨⟨b0, b1, b2, b3, b4, b5, b6, b7, b8, d'⟩, ya, yc⟩ := y
  simp only at hcon ⊢
  show Calls Try.prog 35 #[.agg #[.int .i64 a0, .bool a1, .bool a2, .bool a3, .int .i64 a4, .int .i64 a5, .int .i64 a6, .int .i64 a7, .int .i64 a8, .slice xa d.length xc], .agg #[.int .i64 b0, .bool b1, .bool b2, .bool b3, .int .i64 b4, .int .i64 b5, .int .i64 b6, .int .i64 b7, .int .i64 b8, .slice ya d'.length yc]] W _
  generalize d.length = n
  generalize d'.length = n'
  generalize Lib.compareInt a8 b8 = r at hcon ⊢
  have HC := Lib.hid hcon
  clear hcon
  go_enter Try.func35, Try.ntmps35
  go_wp2_with fail
  refine (HC.out _).mono ?_
  rintro e w' ⟨rfl, rfl⟩
  go_wp2_with fail
  go_ret
  exact ⟨rfl, 0, _, by rw [Go.Sort.alloc_eq_grow, Go.Sort.alloc_eq_grow, Go.Sort.grow_grow]; rfl⟩
theorem sort_below {B : Nat} {w : World} {blk off n : Nat} {d : Array El} {os : Array Obj} (hb : B ≤ blk) (hs : B ≤ w.heap.size) : Below B w (sortWorldK encE 10 w blk off n d os) := by
  refine ⟨rfl, rfl, rfl, size_sortWorldK_c encE 10 w blk off n d os, fun j hj => ?_⟩
  unfold sortWorldK Go.Sort.grow Go.Sort.putRowK Go.Sort.putRow Go.Sort.mapBlock Go.Sort.ahead
  show ((w.heap.modify blk _) ++ os)[j]? = _
  rw [Array.getElem?_append_left (by rw [Array.size_modify]; omega), Array.getElem?_modify, if_neg (by omega)]
theorem rcs_elv (L : List El) (j i : Nat) (hj : j < L.length) (hi : i < 10) : (rcs (L.map elv))[j * 10 + i]? = (encE (L.getD j default))[i]? := by
  have e := rcs_at (L.map elv) j (elv (L.getD j default)) (by rw [List.getElem?_map, List.getElem?_eq_getElem hj, List.getD_eq_getElem?_getD, List.getElem?_eq_getElem hj]; rfl) i hi
  exact e
theorem encE_len (x : El) : (encE x).length = 10 := fvs_len _ _
theorem encE_one (x : El) : ∀ v ∈ encE x, v.oneCell' = true := fvs_one _ _ rfl
/-- a row of the call's own, as the sort asks it. -/
theorem ownR_holds {w : World} {base : Nat} {v : Value} {L : List El} (h : OwnR w base v (L.map elv)) (hp : 0 < L.length) : ∃ g cap, v = .slice (some ⟨g, 0, none⟩) L.length cap ∧ base ≤ g ∧ g < w.heap.size ∧ L.length ≤ cap ∧ cap ≤ 9223372036854775807 ∧ Go.Sort.HoldsK encE 10 w g 0 L.toArray := by
  rcases h.1.2 with ⟨hv, h0⟩ | ⟨g, cap, cur, hv, hb, hh, hc, hm, hcs, ht⟩
  · rw [List.length_map] at h0; omega
  · subst hv
    rw [List.length_map] at hc
    refine ⟨g, cap, by rw [List.length_map], hb, (Array.getElem?_eq_some_iff.1 hh).1, hc, by unfold maxLen at hm; omega, fun t ht => ?_⟩
    rw [Go.Sort.size_flatK] at ht
    have ht' : t < L.length * 10 := by simpa using ht
    rw [Go.Sort.get_flatK _ _ _ _ ht]
    refine ⟨?_, frozen_of_row w g _ cur _ hh⟩
    have e := rcs_elv L (t / 10) (t % 10) (by omega) (by omega)
    rw [show t / 10 * 10 + t % 10 = t by omega] at e
    have q := h.1.cellAt t (by rw [List.length_map]; omega)
    rw [Nat.zero_add]
    refine q.trans (e.trans ?_)
    have e3 : L.toArray[t / 10]! = L.getD (t / 10) default := by
      rw [List.getD_eq_getElem?_getD]
      simp [Array.getElem!_eq_getD, Array.getD, List.getElem?_eq_getElem (show t / 10 < L.length by omega), show t / 10 < L.length by omega]
    rw [e3, List.getElem?_eq_getElem (by rw [encE_len]; omega), getElem!_pos _ _ (by rw [encE_len]; omega)]
    rfl
/-- cells that the sort holds, one by one. -/
theorem holds_cells {w : World} {g : Nat} {d : Array El} (h : Go.Sort.HoldsK encE 10 w g 0 d) : ∀ j, j < d.size → ∀ k, k < 10 → w.cell? ⟨g, 0 + j * 10 + k, none⟩ = (fvs ((d.toList.map elv).getD j d0).1 ((d.toList.map elv).getD j d0).2)[k]? := by
  intro j hj k hk
  rw [(h.cell hj hk).1]
  have e : (d.toList.map elv).getD j d0 = elv d[j]! := by
    rw [List.getD_eq_getElem?_getD, List.getElem?_map]
    simp [hj]
  rw [e]
  show some (encE d[j]!)[k]! = (encE d[j]!)[k]?
  rw [List.getElem?_eq_getElem (by rw [encE_len]; exact hk), getElem!_pos _ _ (by rw [encE_len]; exact hk)]
set_option maxRecDepth 100000 in
theorem sort_c {w0 w : World} {v : Value} {L : List El} (h : OwnR w w0.heap.size v (L.map elv)) (hp : 0 < L.length) (hn : L.length ≤ 1000) (hS : ∀ x ∈ L.map elv, Sl w0 x.2 x.1.dat) (B0 : Below w0.heap.size w0 w) :
    Calls Try.prog 34 #[v, .func (.func 35) #[] #[]] w fun e w' => e = .returned (.tuple #[]) ∧ Below w0.heap.size w0 w' ∧ ∃ M : List El, M.Perm L ∧ M.Pairwise (fun a b => ¬ b.1.off < a.1.off) ∧ Fl w' v (M.map elv) := by
  obtain ⟨g, cap, rfl, hg, hgs, hc1, hc2, hH⟩ := ownR_holds h hp
  have eg : ∀ args w, (callFunc 35 args).run Try.prog w = .ok (.enter 35 args) w := enters_of Try.func35 (by kernel_rfl) rfl
  have hcon := AnyQ.slices_SortFunc sortFr 10 Try.isAgg24 Try.sizeOf24 encE encE_len encE_one cmpE swoE 35 #[] g 0 cap L.toArray w eg (fun _ _ _ _ x y => closure_c x y _) hH hgs (by simp; omega)
  refine hcon.mono ?_
  rintro e w' ⟨rfl, d', n, os, ⟨hp1, _, hp2⟩, hs2, rfl⟩
  have hB' := B0.trans (sort_below (w := w) (blk := g) (off := 0) (n := n) (d := d') (os := os) hg B0.size)
  have hd := holdsK_sortWorldK_c encE 10 w g 0 L.toArray d' n os hH hgs hp1
  have hl : d'.size = L.length := by simpa using hp1
  have hperm : d'.toList.Perm L := by
    have e1 : (d'.extract 0 L.toArray.size).toList = d'.toList := by rw [← hp1]; simp
    have e2 : (L.toArray.extract 0 L.toArray.size).toList = L := by simp
    rwa [e1, e2] at hp2
  refine ⟨rfl, hB', d'.toList, hperm, List.pairwise_iff_getElem.2 fun i j hi hj hij => ?_, some ⟨g, 0, none⟩, cap, by rw [List.length_map]; exact congrArg (fun n => Value.slice (some ⟨g, 0, none⟩) n cap) hp1.symm, by rw [List.length_map]; exact Nat.le_trans (Nat.le_of_eq hl) hc1, hc2, fun _ => ⟨g, 0, rfl, Nat.lt_of_lt_of_le hgs (size_sortWorldK_c encE 10 w g 0 n d' os), fun j hj k hk => ?_⟩, fun x hx => ?_⟩
  · have := hs2 i j (Nat.zero_le _) hij (by rw [← hp1]; simpa using hj)
    rw [ltE] at this
    simp only [Array.length_toList] at hi hj
    rw [getElem!_pos d' j hj, getElem!_pos d' i hi] at this
    simpa using this
  · exact holds_cells hd j (by simpa using hj) k hk
  · obtain ⟨y, hy, rfl⟩ := List.mem_map.1 hx
    exact (hS _ (List.mem_map_of_mem (hperm.mem_iff.1 hy))).below hB'
end Go.Proofs.Yteigmnbbfmcihaa.Ct
