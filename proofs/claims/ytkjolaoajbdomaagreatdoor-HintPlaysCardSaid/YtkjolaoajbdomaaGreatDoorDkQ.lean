/-
  Both disks side by side; the law's into and whole.
  Conditions: none.
-/
import Derived.Test.YtkjolaoajbdomaaGreatDoorDkP
import Derived.Test.YtkjolaoajbdomaaGreatDoorDkJ
import Derived.BigQuiet
namespace Go.Proofs.YtkjolaoajbdomaaGreatDoor.Dk
open Go.RowKit Go.ChangeShapes Go.WideShapes Go.ChangeAt Go.Joins Go.Maps By Ct
set_option linter.unusedVariables false
set_option linter.unusedSimpArgs false

/-- both disks, in blocks of their own. -/
def Bo (w : World) (d m : Nat) (s : Dk) (X Y : Nat → Prop) : Prop := Pm w d s X ∧ Rm w m s Y ∧ ∀ k, X k → ¬ Y k
theorem Bo.below {w w' : World} {d m : Nat} {s : Dk} {X Y : Nat → Prop} (h : Bo w d m s X Y) (q : Below w.heap.size w w') : Bo w' d m s X Y := ⟨h.1.below q, h.2.1.below q, h.2.2⟩
theorem Bo.tu {w w' : World} {d m : Nat} {s : Dk} {X Y Z : Nat → Prop} (h : Bo w d m s X Y) (q : Tu Z w w') (hx : ∀ k, Z k → ¬ X k) (hy : ∀ k, Z k → ¬ Y k) : Bo w' d m s X Y := ⟨h.1.tu q hx, h.2.1.tu q hy, h.2.2⟩
/-- behind a call of both. -/
def Bt (w w' : World) (d m : Nat) (X Y : Nat → Prop) (s' : Dk) : Prop := ∃ X' Y', Bo w' d m s' X' Y' ∧ (∀ k, X' k → X k ∨ w.heap.size ≤ k) ∧ (∀ k, Y' k → Y k ∨ w.heap.size ≤ k) ∧ Tu (fun k => X k ∨ Y k) w w'
theorem Bt.same {w w' : World} {d m : Nat} {s : Dk} {X Y : Nat → Prop} (h : Bo w d m s X Y) (q : Below w.heap.size w w') : Bt w w' d m X Y s := ⟨X, Y, h.below q, fun k hk => .inl hk, fun k hk => .inl hk, tu_below q⟩
/-- the program's call, then the document's. -/
theorem bt_of {w w1 w2 : World} {d m : Nat} {s s' : Dk} {X Y : Nat → Prop} (h : Bo w d m s X Y) (p : Pt w w1 d X s') (r : ∀ (H : Rm w1 m s Y), Rt w1 w2 m Y s') : Bt w w2 d m X Y s' := by
  obtain ⟨X1, hp, hx, ht⟩ := p
  have H1 : Rm w1 m s Y := h.2.1.tu ht h.2.2
  have dis : ∀ k, X1 k → ¬ Y k := fun k hk hy => (hx k hk).elim (fun q => h.2.2 k q hy) (fun q => by have := h.2.1.2.2.1 k hy; omega)
  obtain ⟨Y2, hr, hy, hu⟩ := r H1
  refine ⟨X1, Y2, ⟨hp.tu hu (fun k hk q => dis k q hk), hr, fun k hk q => (hy k q).elim (dis k hk) (fun z => by have := hp.2.2.1 k hk; omega)⟩, hx, fun k hk => (hy k hk).imp id (fun z => Nat.le_trans ht.size z), ?_⟩
  exact (ht.mono (fun i q => .inl q)).tr (hu.mono (fun i q => .inr q) : Tu (fun k => X k ∨ Y k) w1 w2) (fun _ _ q => q)
theorem Bt.tr {w w1 w2 : World} {d m : Nat} {X Y X1 Y1 : Nat → Prop} {s' : Dk} (h : Bt w1 w2 d m X1 Y1 s') (hx : ∀ k, X1 k → X k ∨ w.heap.size ≤ k) (hy : ∀ k, Y1 k → Y k ∨ w.heap.size ≤ k) (ht : Tu (fun k => X k ∨ Y k) w w1) : Bt w w2 d m X Y s' := by
  obtain ⟨X2, Y2, hb, hx2, hy2, ht2⟩ := h
  refine ⟨X2, Y2, hb, fun k hk => (hx2 k hk).elim (hx k) (fun q => .inr (Nat.le_trans ht.size q)), fun k hk => (hy2 k hk).elim (hy k) (fun q => .inr (Nat.le_trans ht.size q)), ht.tr ht2 fun i hi q => ?_⟩
  rcases q with q | q
  · exact (hx i q).elim .inl (fun z => by omega)
  · exact (hy i q).elim .inr (fun z => by omega)
end Go.Proofs.YtkjolaoajbdomaaGreatDoor.Dk
