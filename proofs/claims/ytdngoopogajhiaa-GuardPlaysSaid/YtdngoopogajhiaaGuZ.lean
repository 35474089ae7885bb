/-
  The program's guard does what the laws' texts ask of it.
  Conditions: none.
-/
import Derived.Test.YtdngoopogajhiaaGuM
namespace Go.Proofs.Ytdngoopogajhiaa.Gu
open Go.RowKit Go.ChangeShapes Go.WideShapes Go.ChangeAt Go.Joins Fl
set_option linter.unusedVariables false
set_option linter.unusedSimpArgs false

theorem PM.own {w : World} {b : Nat} {Z : Nat → Prop} {R : List Ru} {H : List Ho} (h : PM w b Z R H) : Z b ∧ ∀ i, Z i → i < w.heap.size := by
  obtain ⟨V, rv, _, _, _, _, _, _, _, _, h9, _, h11⟩ := h
  exact ⟨h9, h11⟩
theorem pc : PC Kz where
  keep := fun w w' a X Y G ⟨b, e, h, q⟩ t d => ⟨b, e, h.keep t d, q⟩
  size := fun w a X G ⟨b, e, h, q⟩ => h.own.2
  new := fun w v R h u k => New_ok h u k
  bad := fun w v R h u k => New_no h u k
  flags := fun w a X G k ad ⟨b, e, h, q⟩ hI _ => by subst e; exact Flags_c h hI.1 ad
  ask := fun w a X G k ad m r ⟨b, e, h, q1, q2⟩ hk hI ha _ _ => by
    subst e
    have hb := h.own.1
    by_cases c : askO G m r
    · refine (Ask_yes h q1 q2 hk hI ad m r c).mono fun e w' ⟨p1, p2, p3⟩ => ⟨⟨?_, X, ?_, fun i hi => .inl hi⟩, p3.mono fun i hi => by rw [show i = b from hi]; exact hb⟩
      · rw [p1]
        unfold askV askX
        rw [if_pos c, if_pos c]
      · unfold askG
        rw [if_pos c]
        exact ⟨b, rfl, p2, fun z => (by cases z), fun x T z => by
          simp only [seeH, frt, List.cons.injEq] at z
          rw [← z.1]⟩
    · have hl : 0 ≤ G.last := hI.2.2.2.2.2.1
      refine (Ask_no h q1 q2 hl ad m r c).mono fun e w' ⟨p1, p2⟩ => ⟨⟨?_, X, ?_, fun i hi => .inl hi⟩, tu_below p2⟩
      · rw [p1]
        unfold askV askX
        rw [if_neg c, if_neg c]
      · unfold askG
        rw [if_neg c]
        exact ⟨b, rfl, h.below p2, q1, q2⟩
  list := fun w a X G k ⟨b, e, h, q⟩ hI => by subst e; exact List_c h
  nflags := fun w ad _ => Flags_nil w ad
  nask := fun w ad m r _ _ _ => Ask_nil w ad m r
  nlist := fun w => List_nil w
end Go.Proofs.Ytdngoopogajhiaa.Gu
