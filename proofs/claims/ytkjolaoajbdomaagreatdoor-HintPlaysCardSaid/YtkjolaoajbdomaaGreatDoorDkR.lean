/-
  The law's step: one call of both disks.
  Conditions: none.
-/
import Derived.Test.YtkjolaoajbdomaaGreatDoorDkQ
import Derived.Deep.RegionHeld3
import Derived.BigRegion
namespace Go.Proofs.YtkjolaoajbdomaaGreatDoor.Dk
open Go.RowKit Go.ChangeShapes Go.WideShapes Go.ChangeAt Go.Joins Go.Maps By Ct
set_option linter.unusedVariables false
set_option linter.unusedSimpArgs false

theorem avs_at {w : World} {b : Nat} {x : Ac} {dv : Value} (h : Blk w b (avs x dv)) : w.cell? ⟨b, 0, none⟩ = some (.int .i64 x.k) ∧ w.cell? ⟨b, 1, none⟩ = some (.int .i64 x.n) ∧ w.cell? ⟨b, 2, none⟩ = some (.int .i64 x.p) ∧ w.cell? ⟨b, 3, none⟩ = some (.string x.a) ∧ w.cell? ⟨b, 4, none⟩ = some (.string x.b) ∧ w.cell? ⟨b, 5, none⟩ = some dv :=
  ⟨(h.2 0 _ rfl).1, (h.2 1 _ rfl).1, (h.2 2 _ rfl).1, (h.2 3 _ rfl).1, (h.2 4 _ rfl).1, (h.2 5 _ rfl).1⟩
theorem Pt.ahead {w0 w w' : World} {d : Nat} {X : Nat → Prop} {s' : Dk} (q : Below w0.heap.size w0 w) (h : Pt w w' d X s') : Pt w0 w' d X s' := by
  obtain ⟨X', hp, hx, ht⟩ := h
  exact ⟨X', hp, fun k hk => (hx k hk).imp id (fun z => Nat.le_trans q.size z), (tu_below (X := X) q).tr ht (fun _ _ z => z)⟩
theorem pt_td {w w' : World} {d : Nat} {X : Nat → Prop} {s' : Dk} (h : Pm w' d s' X) (t : Tu (Td d) w w') : Pt w w' d X s' := ⟨X, h, fun k hk => .inl hk, t.mono (fun i q => by rw [show i = d from q]; exact h.2.1)⟩
theorem rt_td {w w' : World} {d : Nat} {X : Nat → Prop} {s' : Dk} (h : Rm w' d s' X) (t : Tu (Td d) w w') : Rt w w' d X s' := ⟨X, h, fun k hk => .inl hk, t.mono (fun i q => by rw [show i = d from q]; exact h.2.1)⟩
theorem blk_pt {w w' : World} {d b : Nat} {X : Nat → Prop} {s' : Dk} {vs : List Value} (h : Blk w b vs) (p : Pt w w' d X s') (hb : ¬ X b) : Blk w' b vs := by
  obtain ⟨X', hp, hx, ht⟩ := p
  exact blk_keep h (ht.block b h.1 hb) ht.size
theorem blk_rt {w w' : World} {d b : Nat} {X : Nat → Prop} {s' : Dk} {vs : List Value} (h : Blk w b vs) (p : Rt w w' d X s') (hb : ¬ X b) : Blk w' b vs := by
  obtain ⟨X', hp, hx, ht⟩ := p
  exact blk_keep h (ht.block b h.1 hb) ht.size
/-- bytes that may be written, whatever they are. -/
def Wy (w : World) (g n : Nat) : Prop := g < w.heap.size ∧ ∀ i, i < n → (∃ y, w.cell? ⟨g, i, none⟩ = some (.int .u8 y)) ∧ w.frozen? ⟨g, i, none⟩ = false
theorem wy_own {w : World} {base : Nat} {v : Value} {l : List Nat} (h : Own w base v l) (hl : 0 < l.length) : ∃ g cap, v = .slice (some ⟨g, 0, none⟩) l.length cap ∧ base ≤ g ∧ Wy w g l.length ∧ l.length ≤ cap ∧ cap ≤ maxLen := by
  rcases h.2 with ⟨hv, h0⟩ | ⟨g, cap, cur, hv, hb, hh, hc, hm, _⟩
  · omega
  · subst hv
    refine ⟨g, cap, rfl, hb, ⟨(Array.getElem?_eq_some_iff.1 hh).1, fun i hi => ⟨⟨((l.getD i 0 : Nat) : Int), ?_⟩, frozen_of_row w g i cur _ hh⟩⟩, hc, hm⟩
    rw [World.ownsRow.cellAt h i (by omega)]
    simp [cl, List.getD_eq_getElem?_getD, hi]
theorem Wy.set {w : World} {g n : Nat} (h : Wy w g n) (i : Nat) (y : Int) : Wy (w.setCell ⟨g, i, none⟩ (.int .u8 y)) g n := by
  refine ⟨by simpa [World.setCell] using h.1, fun j hj => ⟨?_, by rw [World.frozen?_setCell]; exact (h.2 j hj).2⟩⟩
  by_cases c : j = i
  · subst c
    exact ⟨y, World.cell?_setCell_same' _ _ _ (by obtain ⟨z, hz⟩ := (h.2 j hj).1; rw [hz]; rfl)⟩
  · obtain ⟨z, hz⟩ := (h.2 j hj).1
    exact ⟨z, (World.cell?_setCell_other _ _ _ _ (fun q => c (by simpa using (congrArg Addr.off q).symm))).trans hz⟩
theorem Wy.keep {w w' : World} {g n : Nat} (h : Wy w g n) (e : w'.heap[g]? = w.heap[g]?) (hs : w.heap.size ≤ w'.heap.size) : Wy w' g n :=
  ⟨Nat.lt_of_lt_of_le h.1 hs, fun i hi => ⟨by obtain ⟨y, hy⟩ := (h.2 i hi).1; exact ⟨y, (World.cell?_of_block (a := ⟨g, i, none⟩) e).trans hy⟩, (World.frozen?_of_block (a := ⟨g, i, none⟩) e).trans (h.2 i hi).2⟩⟩
/-- behind the call, a block is written that no disk has. -/
theorem Pt.wrote {w0 w w' wr : World} {d g : Nat} {X : Nat → Prop} {s' : Dk} (q : Below w0.heap.size w0 w) (h : Pt w w' d X s') (hg : w0.heap.size ≤ g) (hgl : g < w.heap.size) (gx : ¬ X g) (t : Tu (Td g) w' wr) : Pt w0 wr d X s' := by
  obtain ⟨X', hp, hx, ht⟩ := h
  refine ⟨X', hp.tu t (fun k hk hx' => ?_), fun k hk => (hx k hk).imp id (fun z => Nat.le_trans q.size z), ((tu_below (X := X) q).tr ht (fun _ _ z => z)).tr t (fun i hi z => ?_)⟩
  · have hk' : k = g := hk
    subst hk'
    rcases hx k hx' with z | z
    · exact gx z
    · omega
  · have z' : i = g := z
    omega
theorem readD_byte {s : Dk} (h : Wf s) (n : List UInt8) : ∀ y ∈ readD s n, y < 256 := by
  intro y hy
  unfold readD at hy
  split at hy
  · cases hy
  · split at hy
    · cases hy
    · cases hg : get s.fs n with
      | none => rw [hg] at hy; cases hy
      | some dt => rw [hg] at hy; exact (h.data _ (get_mem hg)).1 y hy
end Go.Proofs.YtkjolaoajbdomaaGreatDoor.Dk
