/-
  A disk and a row of names beside it; a write under a name that is none.
  Conditions: none.
-/
import Derived.Test.YtpnphmfpandmkaaDkT
namespace Go.Proofs.Ytpnphmfpandmkaa.Dk
open Go.RowKit Go.ChangeShapes Go.WideShapes Go.ChangeAt Go.Joins Go.Maps By Ct
set_option linter.unusedVariables false
set_option linter.unusedSimpArgs false

set_option maxRecDepth 100000 in
set_option maxHeartbeats 16000000 in
theorem Write_bad {w : World} {d : Nat} {s : Dk} {X : Nat → Prop} {nm : ByteArray} {va : Option Addr} {n cap : Nat} (h : Pm w d s X) (ho : s.out = false) (hn : okN nm.data.toList = false) :
    Calls Try.prog 14 #[.pointer (some ⟨d, 0, none⟩), .string nm, .slice va n cap] w fun e w' => e = .returned (.int .i64 4) ∧ Below w.heap.size w w' := by
  have BA := Lib.hid (balloc (brefl w) (.cells #[.string nm] 9))
  have SR := Lib.hid (sr_one w nm 9)
  obtain ⟨mv, o, c, a, k, hb, hp, _⟩ := h.open
  have c1 := ((hb.below BA.out).2 1 _ rfl).1
  obtain ⟨rfl, _⟩ := hp
  have E : Hid (refE s.out [nm] = 4) := Lib.hid (by rw [refE1, ho, hn]; rfl)
  clear h hb ho hn
  go_enter Try.func14, Try.ntmps14
  go_upto_region 1 with fail
  go_wp2_with fail
  generalize w.alloc (.cells #[.string nm] 9) = w1 at *
  refine (refusal_c (cap := 1) SR.out (by simp) (by simp) c1).mono ?_
  rintro e w2 ⟨rfl, hb2⟩
  have B2 := Lib.hid (bstep BA.out hb2)
  clear hb2 SR c1 BA
  rw [E.out]
  clear E
  go_wp2_with fail
  go_ret
  exact ⟨rfl, B2.out⟩
/-- a disk of the call's own, beside a row of names of the call's own that it does not reach. -/
def Ph (w0 w : World) (gv : Value) (G : List (List UInt8)) (d : Nat) (s : Dk) : Prop :=
  ∃ X, Pm w d s X ∧ (∀ k, X k → w0.heap.size ≤ k) ∧ OwnS w w0.heap.size gv G ∧ (∀ g, gv.ownBlock = some g → ¬ X g) ∧ Below w0.heap.size w0 w
theorem Ph.below {w0 w w' : World} {gv : Value} {G : List (List UInt8)} {d : Nat} {s : Dk} (h : Ph w0 w gv G d s) (q : Below w.heap.size w w') : Ph w0 w' gv G d s := by
  obtain ⟨X, hp, hx, ho, hd, B⟩ := h
  exact ⟨X, hp.below q, hx, row_below ho q, hd, bstep B q⟩
theorem Ph.own {w0 w : World} {gv : Value} {G : List (List UInt8)} {d : Nat} {s : Dk} (h : Ph w0 w gv G d s) : OwnS w w0.heap.size gv G := by
  obtain ⟨X, hp, hx, ho, hd, B⟩ := h
  exact ho
theorem Ph.bel {w0 w : World} {gv : Value} {G : List (List UInt8)} {d : Nat} {s : Dk} (h : Ph w0 w gv G d s) : Below w0.heap.size w0 w := by
  obtain ⟨X, hp, hx, ho, hd, B⟩ := h
  exact B
theorem Ph.lt {w0 w : World} {gv : Value} {G : List (List UInt8)} {d : Nat} {s : Dk} (h : Ph w0 w gv G d s) : d < w.heap.size ∧ w0.heap.size ≤ d := by
  obtain ⟨X, hp, hx, ho, hd, B⟩ := h
  exact ⟨hp.2.2.1 d hp.2.1, hx d hp.2.1⟩
theorem Ph.wf {w0 w : World} {gv : Value} {G : List (List UInt8)} {d : Nat} {s : Dk} (h : Ph w0 w gv G d s) : Wf s := by
  obtain ⟨X, hp, hx, ho, hd, B⟩ := h
  exact hp.1
theorem ph_pt {w0 w w' : World} {gv : Value} {G : List (List UInt8)} {d : Nat} {s' : Dk} {X : Nat → Prop} (hx : ∀ k, X k → w0.heap.size ≤ k) (ho : OwnS w w0.heap.size gv G) (hd : ∀ g, gv.ownBlock = some g → ¬ X g) (B : Below w0.heap.size w0 w) (p : Pt w w' d X s') : Ph w0 w' gv G d s' := by
  obtain ⟨X', hp, hk, ht⟩ := p
  exact ⟨X', hp, fun k q => (hk k q).elim (hx k) (fun z => Nat.le_trans B.size z), row_keep ho (fun g hg => ht.block g (ho.lt g hg).2 (hd g hg)), fun g hg q => (hk g q).elim (hd g hg) (fun z => by have := (ho.lt g hg).2; omega), B.trans (ht.below hx B.size)⟩
theorem Write_p {w0 w : World} {gv : Value} {G : List (List UInt8)} {d : Nat} {s : Dk} {nm : ByteArray} {v : Value} {l : List Nat} (h : Ph w0 w gv G d s) (hf : s.fs.length ≤ 90000) (S : Sl w v l) (vd : 0 < l.length → v.ownBlock ≠ some d) :
    Calls Try.prog 14 #[.pointer (some ⟨d, 0, none⟩), .string nm, v] w fun e w' => e = .returned (.int .i64 (writeE s nm.data.toList l.length)) ∧ Ph w0 w' gv G d (writeS s nm.data.toList l) ∧ w.heap.size ≤ w'.heap.size := by
  obtain ⟨X, hp, hx, ho, hd, B⟩ := h
  exact (Write_c hp hf S vd).mono fun e w' ⟨h1, h2⟩ => ⟨h1, ph_pt hx ho hd B h2, by obtain ⟨_, _, _, ht⟩ := h2; exact ht.size⟩
theorem Write_pb {w0 w : World} {gv : Value} {G : List (List UInt8)} {d : Nat} {s : Dk} {nm : ByteArray} {va : Option Addr} {n cap : Nat} (h : Ph w0 w gv G d s) (ho : s.out = false) (hn : okN nm.data.toList = false) :
    Calls Try.prog 14 #[.pointer (some ⟨d, 0, none⟩), .string nm, .slice va n cap] w fun e w' => e = .returned (.int .i64 4) ∧ Ph w0 w' gv G d s ∧ w.heap.size ≤ w'.heap.size := by
  have h' := h
  obtain ⟨X, hp, _⟩ := h
  exact (Write_bad hp ho hn).mono fun e w' ⟨h1, h2⟩ => ⟨h1, h'.below h2, h2.size⟩
theorem Read_p {w0 w : World} {gv : Value} {G : List (List UInt8)} {d : Nat} {s : Dk} {nm : ByteArray} (h : Ph w0 w gv G d s) :
    Calls Try.prog 17 #[.pointer (some ⟨d, 0, none⟩), .string nm] w fun e w' => (∃ u, e = .returned (.tuple #[u, .int .i64 (readE s nm.data.toList)]) ∧ Own w' w.heap.size u (readD s nm.data.toList)) ∧ Ph w0 w' gv G d s ∧ Below w.heap.size w w' := by
  have h' := h
  obtain ⟨X, hp, _⟩ := h
  exact (Read_c hp).mono fun e w' ⟨u, h1, h2, h3⟩ => ⟨⟨u, h1, h2⟩, h'.below h3, h3⟩
theorem Cut_p {w0 w : World} {gv : Value} {G : List (List UInt8)} {d : Nat} {s : Dk} (h : Ph w0 w gv G d s) (n k : Int) (h1 : n ≤ 9223372036854775807) (h2 : -9223372036854775808 ≤ k) (h3 : k ≤ 9223372036854775807) :
    Calls Try.prog 18 #[.pointer (some ⟨d, 0, none⟩), .int .i64 n, .int .i64 k] w fun e w' => e = .returned (.int .i64 (cutE n)) ∧ Ph w0 w' gv G d (cutS s n k) := by
  obtain ⟨X, hp, hx, ho, hd, B⟩ := h
  exact (Cut_c hp n k h1 h2 h3).mono fun e w' ⟨q1, q2, q3⟩ => ⟨q1, ph_pt hx ho hd B (pt_td q2 (by exact q3))⟩
theorem Restart_p {w0 w : World} {gv : Value} {G : List (List UInt8)} {d : Nat} {s : Dk} (h : Ph w0 w gv G d s) :
    Calls Try.prog 12 #[.pointer (some ⟨d, 0, none⟩)] w fun e w' => e = .returned (.int .i64 0) ∧ Ph w0 w' gv G d (restart s) := by
  obtain ⟨X, hp, hx, ho, hd, B⟩ := h
  exact (Restart_c hp).mono fun e w' ⟨q1, q2, q3⟩ => ⟨q1, ph_pt hx ho hd B (pt_td q2 q3)⟩
theorem Names_p {w0 w : World} {gv : Value} {G : List (List UInt8)} {d : Nat} {s : Dk} (h : Ph w0 w gv G d s) (hf : s.fs.length ≤ 90000) (hn : names s = []) :
    Calls Try.prog 15 #[.pointer (some ⟨d, 0, none⟩)] w fun e w' => (∃ a c, e = .returned (.slice a 0 c)) ∧ Ph w0 w' gv G d s := by
  have h' := h
  obtain ⟨X, hp, _⟩ := h
  refine (Names_c hp hf).mono fun e w' ⟨v, h1, h2, h3⟩ => ?_
  rw [hn] at h2
  obtain ⟨a, c, e2⟩ := ownS_form h2
  exact ⟨⟨a, c, by rw [h1, e2]; rfl⟩, h'.below h3⟩
/-- one name more. -/
theorem ph_app {w0 w : World} {gv : Value} {G : List (List UInt8)} {d : Nat} {s : Dk} (h : Ph w0 w gv G d s) (x : List UInt8) (hn : G.length ≤ 100) (ty : TypeId) :
    ∃ v' w', (Builtin.append_ #[41, 41] ty #[gv, .slice (some ⟨w.heap.size, 0, none⟩) 1 1]).run Try.prog (w.alloc (.cells #[.string (st x)] 9)) = .ok v' w' ∧ Ph w0 w' v' (G ++ [x]) d s := by
  obtain ⟨X, hp, hx, ho, hd, B⟩ := h
  obtain ⟨v', w', r1, r2, r3, r4, r5⟩ := appSt ho x B.size (by omega) ty
  refine ⟨v', w', r1, X, hp.tu (Y := fun k => gv.ownBlock = some k) ⟨r3.os, r3.tape, r3.output, r4, fun k hk q => r5.2.1 k hk q⟩ (fun k q => hd k q), hx, r2, fun g hg q => ?_, B.trans r3⟩
  rcases r5.2.2 g hg with z | z
  · exact hd g z q
  · have := hp.2.2.1 g q
    omega
/-- a disk of the call's own that does not reach Z: Z stands as it stood in wz. -/
def Pz (w0 wz w : World) (Z : Nat → Prop) (d : Nat) (s : Dk) : Prop :=
  ∃ X, Pm w d s X ∧ (∀ k, X k → w0.heap.size ≤ k) ∧ (∀ k, Z k → k < wz.heap.size ∧ ¬ X k ∧ w.heap[k]? = wz.heap[k]?) ∧ wz.heap.size ≤ w.heap.size ∧ Below w0.heap.size w0 w
theorem Pz.below {w0 wz w w' : World} {Z : Nat → Prop} {d : Nat} {s : Dk} (h : Pz w0 wz w Z d s) (q : Below w.heap.size w w') : Pz w0 wz w' Z d s := by
  obtain ⟨X, hp, hx, hz, hs, B⟩ := h
  exact ⟨X, hp.below q, hx, fun k hk => ⟨(hz k hk).1, (hz k hk).2.1, (q.block k (Nat.lt_of_lt_of_le (hz k hk).1 hs)).trans (hz k hk).2.2⟩, Nat.le_trans hs q.size, bstep B q⟩
theorem Pz.bel {w0 wz w : World} {Z : Nat → Prop} {d : Nat} {s : Dk} (h : Pz w0 wz w Z d s) : Below w0.heap.size w0 w := by
  obtain ⟨X, hp, hx, hz, hs, B⟩ := h
  exact B
theorem Pz.lt {w0 wz w : World} {Z : Nat → Prop} {d : Nat} {s : Dk} (h : Pz w0 wz w Z d s) : d < w.heap.size ∧ w0.heap.size ≤ d := by
  obtain ⟨X, hp, hx, hz, hs, B⟩ := h
  exact ⟨hp.2.2.1 d hp.2.1, hx d hp.2.1⟩
theorem Pz.keep {w0 wz w : World} {Z : Nat → Prop} {d : Nat} {s : Dk} (h : Pz w0 wz w Z d s) {k : Nat} (hk : Z k) : w.heap[k]? = wz.heap[k]? := by
  obtain ⟨X, hp, hx, hz, hs, B⟩ := h
  exact (hz k hk).2.2
theorem pz_pt {w0 wz w w' : World} {Z : Nat → Prop} {d : Nat} {s' : Dk} {X : Nat → Prop} (hx : ∀ k, X k → w0.heap.size ≤ k) (hz : ∀ k, Z k → k < wz.heap.size ∧ ¬ X k ∧ w.heap[k]? = wz.heap[k]?) (hs : wz.heap.size ≤ w.heap.size) (B : Below w0.heap.size w0 w) (p : Pt w w' d X s') : Pz w0 wz w' Z d s' := by
  obtain ⟨X', hp, hk, ht⟩ := p
  exact ⟨X', hp, fun k q => (hk k q).elim (hx k) (fun z => Nat.le_trans B.size z), fun k q => ⟨(hz k q).1, fun z => (hk k z).elim (hz k q).2.1 (fun y => by have := (hz k q).1; omega), (ht.block k (Nat.lt_of_lt_of_le (hz k q).1 hs) (hz k q).2.1).trans (hz k q).2.2⟩, Nat.le_trans hs ht.size, B.trans (ht.below hx B.size)⟩
theorem Write_z {w0 wz w : World} {Z : Nat → Prop} {d : Nat} {s : Dk} {nm : ByteArray} {v : Value} {l : List Nat} (h : Pz w0 wz w Z d s) (hf : s.fs.length ≤ 90000) (S : Sl w v l) (vd : 0 < l.length → v.ownBlock ≠ some d) :
    Calls Try.prog 14 #[.pointer (some ⟨d, 0, none⟩), .string nm, v] w fun e w' => e = .returned (.int .i64 (writeE s nm.data.toList l.length)) ∧ Pz w0 wz w' Z d (writeS s nm.data.toList l) := by
  obtain ⟨X, hp, hx, hz, hs, B⟩ := h
  exact (Write_c hp hf S vd).mono fun e w' ⟨h1, h2⟩ => ⟨h1, pz_pt hx hz hs B h2⟩
theorem Read_z {w0 wz w : World} {Z : Nat → Prop} {d : Nat} {s : Dk} {nm : ByteArray} (h : Pz w0 wz w Z d s) :
    Calls Try.prog 17 #[.pointer (some ⟨d, 0, none⟩), .string nm] w fun e w' => (∃ u, e = .returned (.tuple #[u, .int .i64 (readE s nm.data.toList)]) ∧ Own w' w.heap.size u (readD s nm.data.toList)) ∧ Pz w0 wz w' Z d s ∧ Below w.heap.size w w' := by
  have h' := h
  obtain ⟨X, hp, _⟩ := h
  exact (Read_c hp).mono fun e w' ⟨u, h1, h2, h3⟩ => ⟨⟨u, h1, h2⟩, h'.below h3, h3⟩
theorem Cut_z {w0 wz w : World} {Z : Nat → Prop} {d : Nat} {s : Dk} (h : Pz w0 wz w Z d s) (n k : Int) (h1 : n ≤ 9223372036854775807) (h2 : -9223372036854775808 ≤ k) (h3 : k ≤ 9223372036854775807) :
    Calls Try.prog 18 #[.pointer (some ⟨d, 0, none⟩), .int .i64 n, .int .i64 k] w fun e w' => e = .returned (.int .i64 (cutE n)) ∧ Pz w0 wz w' Z d (cutS s n k) := by
  obtain ⟨X, hp, hx, hz, hs, B⟩ := h
  exact (Cut_c hp n k h1 h2 h3).mono fun e w' ⟨q1, q2, q3⟩ => ⟨q1, pz_pt hx hz hs B (pt_td q2 q3)⟩
theorem Restart_z {w0 wz w : World} {Z : Nat → Prop} {d : Nat} {s : Dk} (h : Pz w0 wz w Z d s) :
    Calls Try.prog 12 #[.pointer (some ⟨d, 0, none⟩)] w fun e w' => e = .returned (.int .i64 0) ∧ Pz w0 wz w' Z d (restart s) := by
  obtain ⟨X, hp, hx, hz, hs, B⟩ := h
  exact (Restart_c hp).mono fun e w' ⟨q1, q2, q3⟩ => ⟨q1, pz_pt hx hz hs B (pt_td q2 q3)⟩
theorem Names_z {w0 wz w : World} {Z : Nat → Prop} {d : Nat} {s : Dk} (h : Pz w0 wz w Z d s) (hf : s.fs.length ≤ 90000) (hn : names s = []) :
    Calls Try.prog 15 #[.pointer (some ⟨d, 0, none⟩)] w fun e w' => (∃ a c, e = .returned (.slice a 0 c)) ∧ Pz w0 wz w' Z d s := by
  have h' := h
  obtain ⟨X, hp, _⟩ := h
  refine (Names_c hp hf).mono fun e w' ⟨v, h1, h2, h3⟩ => ?_
  rw [hn] at h2
  obtain ⟨a, c, e2⟩ := ownS_form h2
  exact ⟨⟨a, c, by rw [h1, e2]; rfl⟩, h'.below h3⟩
/-- what was read stands apart from the disk. -/
theorem Read_p0 {w0 w : World} {gv : Value} {G : List (List UInt8)} {d : Nat} {s : Dk} {nm : ByteArray} (h : Ph w0 w gv G d s) :
    Calls Try.prog 17 #[.pointer (some ⟨d, 0, none⟩), .string nm] w fun e w' => ∃ u, e = .returned (.tuple #[u, .int .i64 (readE s nm.data.toList)]) ∧ Own w' w.heap.size u (readD s nm.data.toList) ∧ OwnS w' w0.heap.size gv G ∧ Pz w0 w' w' (fun k => gv.ownBlock = some k ∨ u.ownBlock = some k) d s := by
  obtain ⟨X, hp, hx, ho, hd, B⟩ := h
  refine (Read_c hp).mono fun e w' ⟨u, h1, h2, h3⟩ => ⟨u, h1, h2, row_below ho h3, X, hp.below h3, hx, fun k hk => ?_, Nat.le_refl _, bstep B h3⟩
  rcases hk with q | q
  · exact ⟨Nat.lt_of_lt_of_le (ho.lt k q).2 h3.size, hd k q, rfl⟩
  · exact ⟨(h2.lt k q).2, fun z => by have := (h2.lt k q).1; have := hp.2.2.1 k z; omega, rfl⟩
end Go.Proofs.Ytpnphmfpandmkaa.Dk
