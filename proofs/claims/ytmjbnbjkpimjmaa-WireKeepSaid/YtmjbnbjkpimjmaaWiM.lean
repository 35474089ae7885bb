/-
  Ends of packets, copies of bytes, headers: the contracts of wire.authOf, header, slices.Clone at bytes; of sundialref09's part, header.
  Conditions: none.
-/
import Derived.Test.YtmjbnbjkpimjmaaWjC
import Derived.StillTailTactics
import Derived.Lib.SliceRun
import Derived.Deep.CutRange
namespace Go.Proofs.Ytmjbnbjkpimjmaa.Wi
open Go.RowKit Go.ChangeShapes Go.WideShapes Go.ChangeAt Go.Joins By
set_option linter.unusedVariables false
set_option linter.unusedSimpArgs false

/-- bytes in memory at an address, if there are any. -/
def Rn (w : World) (ad : Option Addr) (m : Nat) (g : Nat → Nat) : Prop := (∀ i, g i < 256) ∧ (0 < m → ∃ b o, ad = some ⟨b, o, none⟩ ∧ Bs w b o m g)
theorem Rn.below {w w' : World} {ad : Option Addr} {m : Nat} {g : Nat → Nat} (h : Rn w ad m g) (k : Below w.heap.size w w') : Rn w' ad m g :=
  ⟨h.1, fun hm => by obtain ⟨b, o, e, B⟩ := h.2 hm; exact ⟨b, o, e, B.below k⟩⟩
theorem Rn.sl {w : World} {ad : Option Addr} {m cap : Nat} {g : Nat → Nat} (h : Rn w ad m g) (hn : m ≤ 140737488351232) (hc : m ≤ cap) (hc2 : cap ≤ 9223372036854775807) (h0 : ad = none → cap = 0) : Sl w (.slice ad m cap) (bl g m) :=
  sb_sl ⟨ad, cap, rfl, hc, hc2, h.1, h.2, h0⟩ hn
/-- what an end of m bytes is. -/
def au (m : Nat) : Int := if m = 0 then 0 else if m = 4 then 1 else if m = 20 ∨ m = 24 then 2 else 0
def ab (g : Nat → Nat) (m : Nat) : Bool := if m = 0 then true else if m = 4 then decide (gt g 0 4 = 0) else decide (m = 20 ∨ m = 24)
set_option maxRecDepth 100000 in
set_option maxHeartbeats 1000000 in
theorem authOf_c {w : World} {ad : Option Addr} {m cap : Nat} {g : Nat → Nat} (h : Rn w ad m g) : Calls Try.prog 40 #[.slice ad m cap] w fun e w' => e = .returned (.tuple #[.int .i64 (au m), .bool (ab g m)]) ∧ w' = w := by
  have H := Lib.hid h
  clear h
  by_cases c0 : m = 0
  · subst c0
    go_enter Try.func40, Try.ntmps40
    go_wp2_with fail
    go_ret2
    exact ⟨rfl, rfl⟩
  · have e0 : ((m : Int) == 0) = false := by simp; omega
    by_cases c1 : m = 4
    · subst c1
      obtain ⟨b, o, rfl, B⟩ := H.out.2 (by omega)
      have HN := Lib.hid (number_c cap B (by omega))
      have G := gt_lt B.2.1 0 4
      have E : Hid (ab g 4 = decide (gt g 0 4 = 0)) := Lib.hid rfl
      generalize gt g 0 4 = x at *
      clear B H
      go_enter Try.func40, Try.ntmps40
      go_wp2_with fail
      refine HN.out.mono ?_
      rintro e w1 ⟨rfl, rfl⟩
      by_cases cx : x = 0
      · subst cx
        go_wp2_with fail
        go_ret2
        exact ⟨by rw [E.out]; rfl, rfl⟩
      · have ex : ((x : Int) == 0) = false := by simp; omega
        have CX := Lib.hid cx
        clear cx
        go_wp2_with fail
        go_ret2
        exact ⟨by rw [E.out, decide_eq_false CX.out]; rfl, rfl⟩
    · have e1 : ((m : Int) == 4) = false := by simp; omega
      have E : Hid (au m = if m = 20 ∨ m = 24 then 2 else 0) := Lib.hid (by unfold au; rw [if_neg c0, if_neg c1])
      have F : Hid (ab g m = decide (m = 20 ∨ m = 24)) := Lib.hid (by unfold ab; rw [if_neg c0, if_neg c1])
      clear c0 c1 H
      by_cases c2 : m = 20
      · have e2 : ((m : Int) == 20) = true := by simp; omega
        have C := Lib.hid c2
        clear c2
        go_enter Try.func40, Try.ntmps40
        go_wp2_with fail
        go_ret2
        exact ⟨by rw [E.out, F.out, if_pos (.inl C.out), decide_eq_true (.inl C.out)]; rfl, rfl⟩
      · have e2 : ((m : Int) == 20) = false := by simp; omega
        have C2 := Lib.hid c2
        clear c2
        by_cases c3 : m = 24
        · have e3 : ((m : Int) == 24) = true := by simp; omega
          have C := Lib.hid c3
          clear c3
          go_enter Try.func40, Try.ntmps40
          go_wp2_with fail
          go_ret2
          exact ⟨by rw [E.out, F.out, if_pos (.inr C.out), decide_eq_true (.inr C.out)]; rfl, rfl⟩
        · have e3 : ((m : Int) == 24) = false := by simp; omega
          have C := Lib.hid c3
          clear c3
          go_enter Try.func40, Try.ntmps40
          go_wp2_with fail
          go_ret2
          exact ⟨by rw [E.out, F.out, if_neg (fun h => h.elim C2.out C.out), decide_eq_false (fun h => h.elim C2.out C.out)]; rfl, rfl⟩
theorem eql_nil (w : World) (a : Option Addr) (n c n' c' : Nat) : (binOp .eql 28 (.slice a n c) (.slice none n' c')).run Try.prog w = .ok (.bool a.isNone) w := Lib.run_eql_slice_nil w _ _ a n c n' c' Try.underlying28
set_option maxRecDepth 100000 in
set_option maxHeartbeats 1000000 in
theorem Clone_c {w : World} {ad : Addr} {m cap : Nat} {l : List Nat} (h : Sl w (.slice (some ad) m cap) l) : Calls Try.prog 30 #[.slice (some ad) m cap] w fun e w' => (∃ v, e = .returned v ∧ Own w' w.heap.size v l) ∧ Below w.heap.size w w' := by
  obtain ⟨v', w', hr, o', b', g'⟩ := h.appg (balloc (brefl w) (.cells #[] 5)) (own0 w w.heap.size (Nat.le_refl _)) (by simp) (by have := h.1; simp; omega) 28
  have O := Lib.hid o'
  have B := Lib.hid (bstepB (balloc (brefl w) (.cells #[] 5)) b')
  clear o' b' g' h
  have EN := eql_nil
  go_enter Try.func30, Try.ntmps30
  go_wp2_with (first | (at_builtin; refine wpList_append_eq rfl _ _ 28 rfl _ _ v' w' rfl rfl hr ?_))
  go_ret
  exact ⟨⟨_, rfl, by simpa using O.out⟩, B.out⟩
/-- a part of bytes. -/
theorem part_sl {w : World} {b o n : Nat} {f : Nat → Nat} (h : Bs w b o n f) {x y c : Nat} (h1 : x ≤ y) (h2 : y ≤ n) (hn : n ≤ 140737488351232) (hc : y - x ≤ c) (hc2 : c ≤ 9223372036854775807) : Sl w (.slice (some ⟨b, o + x, none⟩) ((y - x : Nat)) c) (bl (fun i => f (x + i)) (y - x)) :=
  sb_sl ⟨_, c, rfl, hc, hc2, fun i => h.2.1 _, fun _ => ⟨b, o + x, rfl, h.part x (y - x) (by omega)⟩, fun e => by cases e⟩ (by omega)
theorem empty_sl (w : World) (ad : Addr) (c : Nat) (hc : c ≤ 9223372036854775807) : Sl w (.slice (some ad) 0 c) [] :=
  ⟨by simp, fun x h => (by cases h), some ad, c, rfl, Nat.zero_le _, hc, fun _ => by simp, fun h => absurd h (by simp), fun e => by cases e⟩
set_option maxRecDepth 100000 in
set_option maxHeartbeats 1000000 in
theorem part_c {w : World} {b o n cap : Nat} {f : Nat → Nat} (h : Bs w b o n f) (hn : n ≤ 140737488351232) (hc : n ≤ cap) (hc2 : cap ≤ 9223372036854775807) {x y : Nat} (h1 : x ≤ y) (h2 : y ≤ n) :
    Calls Try.prog 33 #[.slice (some ⟨b, o, none⟩) n cap, .int .i64 (x : Int), .int .i64 (y : Int)] w fun e w' => (∃ v, e = .returned v ∧ Own w' w.heap.size v (bl (fun i => f (x + i)) (y - x))) ∧ Below w.heap.size w w' := by
  have q0 : (0 : Int) ≤ (x : Int) := by omega
  have q1 : (x : Int) ≤ (y : Int) := by omega
  have q2 : (y : Int) ≤ (n : Int) := by omega
  have q3 : (n : Int) ≤ (cap : Int) := by omega
  have q4 : (cap : Int) ≤ 9223372036854775807 := by omega
  by_cases ce : cap = x
  · subst ce
    obtain rfl : y = cap := by omega
    have H := empty_sl w ⟨b, o, none⟩ 0 (by omega)
    obtain ⟨v', w', hr, o', b', g'⟩ := H.appg (brefl w) (Own.nil w w.heap.size) (Nat.le_refl _) (by simp) 28
    have O := Lib.hid o'
    have B := Lib.hid b'
    clear o' b' g' H
    rw [Nat.sub_self]
    go_enter Try.func33, Try.ntmps33
    go_wp2_with (first | (at_builtin; refine wpList_append_eq rfl _ _ 28 rfl _ _ v' w' rfl rfl hr ?_))
    go_ret
    exact ⟨⟨_, rfl, O.out⟩, B.out⟩
  · have H := part_sl h h1 h2 hn (c := cap - x) (by omega) (by omega)
    obtain ⟨v', w', hr, o', b', g'⟩ := H.appg (brefl w) (Own.nil w w.heap.size) (Nat.le_refl _) (by rw [bl_len]; simp; omega) 28
    have O := Lib.hid o'
    have B := Lib.hid b'
    clear o' b' g' H
    go_enter Try.func33, Try.ntmps33
    go_wp2_with (first | (at_builtin; refine wpList_append_eq rfl _ _ 28 rfl _ _ v' w' rfl rfl hr ?_))
    go_ret
    exact ⟨⟨_, rfl, O.out⟩, B.out⟩
end Go.Proofs.Ytmjbnbjkpimjmaa.Wi
