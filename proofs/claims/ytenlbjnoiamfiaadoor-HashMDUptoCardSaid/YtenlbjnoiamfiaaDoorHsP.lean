/-
  MD5 block by block, from whatever state on; the contract of hash.md5Blocks.
  Conditions: the tables read as the program's text lays them.
-/
import Derived.Test.YtenlbjnoiamfiaaDoorHsN
import Derived.Deep.RegionHeld3
import Derived.Deep.RegionLaw
namespace Go.Proofs.YtenlbjnoiamfiaaDoor.Hs
open Go.RowKit
set_option linter.unusedVariables false
set_option linter.unusedSimpArgs false

/-- the state behind t blocks, from s on. -/
def mdGo (F : Nat → Nat) (s : S4) : Nat → S4
  | 0 => s
  | t + 1 => mdAdd (mdGo F s t) (mdRun (fun g => wrd true F (64 * t + 4 * g)) (mdGo F s t) 64)
theorem mdGo_ok {F : Nat → Nat} {s : S4} (h : s.ok) : ∀ t, (mdGo F s t).ok
  | 0 => h
  | t + 1 => ⟨Nat.mod_lt _ (by omega), Nat.mod_lt _ (by omega), Nat.mod_lt _ (by omega), Nat.mod_lt _ (by omega)⟩

theorem Sw.other {w : World} {b : Nat} {s : S4} (h : Sw w b s) {b' : Nat} (hb : b ≠ b') (i : Nat) (v : Value) : Sw (w.setCell ⟨b', i, none⟩ v) b s := by
  obtain ⟨h0, h1, h2, h3, h4, h5, h6, h7, h8⟩ := h
  have e : ∀ j, (w.setCell ⟨b', i, none⟩ v).cell? ⟨b, j, none⟩ = w.cell? ⟨b, j, none⟩ := fun j => World.cell?_setCell_other _ _ _ _ (fun q => hb (by simpa using (congrArg Addr.block q).symm))
  have g : ∀ j, (w.setCell ⟨b', i, none⟩ v).frozen? ⟨b, j, none⟩ = w.frozen? ⟨b, j, none⟩ := fun j => by rw [World.frozen?_setCell]
  exact ⟨by simpa [World.setCell] using h0, (e 0).trans h1, (e 1).trans h2, (e 2).trans h3, (e 3).trans h4, (g 0).trans h5, (g 1).trans h6, (g 2).trans h7, (g 3).trans h8⟩
theorem Sw.belowX {w : World} {b b' : Nat} {s : S4} (h : Sw w b s) (hb : b ≠ b') (r : S4) : Sw ((((w.setCell ⟨b', 0, none⟩ (.int .u32 r.a)).setCell ⟨b', 1, none⟩ (.int .u32 r.b)).setCell ⟨b', 2, none⟩ (.int .u32 r.c)).setCell ⟨b', 3, none⟩ (.int .u32 r.d)) b s :=
  (((h.other hb 0 _).other hb 1 _).other hb 2 _).other hb 3 _
theorem wrap_in {a : Int} (h : -9223372036854775808 ≤ a) (h' : a ≤ 9223372036854775807) : IntKind.i64.wrap a = a := by
  simp only [IntKind.wrap, IntKind.bits, IntKind.signed]
  simp
  omega
theorem Bs.part {w : World} {b off n : Nat} {f : Nat → Nat} (h : Bs w b off n f) (o m : Nat) (hm : o + m ≤ n) : Bs w b (off + o) m (fun i => f (o + i)) :=
  ⟨h.1, fun i => h.2.1 _, fun i hi => by rw [Nat.add_assoc]; exact h.2.2 (o + i) (by omega)⟩
theorem wrd_part (low : Bool) (f : Nat → Nat) (o a : Nat) : wrd low (fun i => f (o + i)) a = wrd low f (o + a) := by
  unfold wrd
  split <;> simp [wl, wh, Nat.add_assoc]

set_option maxRecDepth 100000 in
set_option maxHeartbeats 4000000 in
theorem md5Blocks_c (s : S4) (b off n cap : Nat) (f : Nat → Nat) (w : World) (G : Gl w) (hs : s.ok) (B : Bs w b off n f) (hn : n ≤ 140737488351232) (hc : n ≤ cap) (hcap : cap ≤ 9223372036854775807) :
    Calls Tryd.prog 16 #[.agg #[.int .u32 s.a, .int .u32 s.b, .int .u32 s.c, .int .u32 s.d], .slice (some ⟨b, off, none⟩) n cap] w fun e w' => e = .returned (.agg (mdGo f s (n / 64)).v) ∧ Below w.heap.size w w' := by
  have WS := Lib.hid (balloc (balloc (brefl w) (.cells #[.int .u32 s.a, .int .u32 s.b, .int .u32 s.c, .int .u32 s.d] 30)) (.cells #[.int .u32 0, .int .u32 0, .int .u32 0, .int .u32 0] 30))
  have GL := Lib.hid (G.below WS.out)
  have BL := Lib.hid (B.below WS.out)
  have S0 := Lib.hid ((Sw.new w s 30).below (balloc (brefl _) (.cells #[.int .u32 0, .int .u32 0, .int .u32 0, .int .u32 0] 30)))
  have R0 := Lib.hid (Sw.new (w.alloc (.cells #[.int .u32 s.a, .int .u32 s.b, .int .u32 s.c, .int .u32 s.d] 30)) ⟨0, 0, 0, 0⟩ 30)
  rw [show (w.alloc (.cells #[.int .u32 s.a, .int .u32 s.b, .int .u32 s.c, .int .u32 s.d] 30)).heap.size = w.heap.size + 1 from by simp] at R0
  replace R0 : Hid (Sw ((w.alloc (.cells #[.int .u32 s.a, .int .u32 s.b, .int .u32 s.c, .int .u32 s.d] 30)).alloc (.cells #[.int .u32 0, .int .u32 0, .int .u32 0, .int .u32 0] 30)) (w.heap.size + 1) ⟨0, 0, 0, 0⟩) := R0
  have GO := Lib.hid (mdGo_ok (F := f) hs)
  have L1 := B.1
  have L3 := G.size
  clear G B
  go_enter Tryd.func16, Tryd.ntmps16
  go_wp2_with fail
  generalize (w.alloc (.cells #[.int .u32 s.a, .int .u32 s.b, .int .u32 s.c, .int .u32 s.d] 30)).alloc (.cells #[.int .u32 0, .int .u32 0, .int .u32 0, .int .u32 0] 30) = W0 at *
  go_loopw [5] (fun i wr => ∃ t m : Nat, m = 64 * t ∧ m ≤ n ∧ i = .int .i64 m ∧ Sw wr w.heap.size (mdGo f s t) ∧ Below w.heap.size W0 wr ∧ Sw wr (w.heap.size + 1) ⟨0, 0, 0, 0⟩) (fun i _ => n - (intOf i).toNat)
  case atStart => exact ⟨0, 0, rfl, by omega, rfl, S0.out, Below.refl _ _, R0.out⟩
  case round =>
    obtain ⟨t, m, hm0, hmn, rfl, sw, hb, rw0⟩ := hrel
    rename World => wr
    have hm := Lib.hid hm0
    clear hm0
    have k0 : (0 : Int) ≤ (m : Int) := by omega
    have k1 : (m : Int) ≤ 140737488351232 := by omega
    have k2 : (n : Int) ≤ 140737488351232 := by omega
    have HB := Lib.hid hb
    have SW := Lib.hid sw
    have RW := Lib.hid rw0
    by_cases c : m + 64 ≤ n
    · have e0 : decide ((m : Int) + 64 ≤ (n : Int)) = true := by rw [decide_eq_true_iff]; omega
      have OK := Lib.hid (GO.out t)
      have BW := Lib.hid ((BL.out.belowB (by omega) hb).part m 64 c)
      have GW := Lib.hid (GL.out.belowB L3 hb)
      have NX : Hid (mdGo f s (t + 1) = mdAdd (mdGo f s t) (mdRun (fun g => wrd true (fun i => f (m + i)) (4 * g)) (mdGo f s t) 64)) := Lib.hid (by
        rw [hm.out]
        show mdAdd _ (mdRun (fun g => wrd true f (64 * t + 4 * g)) _ 64) = _
        congr 2)
      clear sw hb rw0
      generalize mdGo f s t = st at *
      have MW := Lib.hid (fun w2 cp (k : Below wr.heap.size wr w2) => md5Words_c b (off + m) cp (fun i => f (m + i)) w2 (BW.out.below k))
      have MB := Lib.hid (fun w2 (k : Below wr.heap.size wr w2) => md5Block_c st (fun i => wrd true (fun i => f (m + i)) (4 * i)) w2 (GW.out.below k) OK.out (fun i _ => wrd_lt true _ (fun j => BW.out.2.1 j) _))
      generalize mdAdd st (mdRun (fun g => wrd true (fun i => f (m + i)) (4 * g)) st 64) = r at *
      replace MB : Hid (∀ w2, Below wr.heap.size wr w2 → Calls Tryd.prog 33 #[.agg #[.int .u32 st.a, .int .u32 st.b, .int .u32 st.c, .int .u32 st.d], .agg (wc (fun i => wrd true (fun i => f (m + i)) (4 * i)) 16).toArray] w2 fun e w' => e = .returned (.agg #[.int .u32 r.a, .int .u32 r.b, .int .u32 r.c, .int .u32 r.d]) ∧ Below w2.heap.size w2 w') := MB
      have KP := Lib.hid (fun w2 (k : Below wr.heap.size wr w2) => (SW.out.below k))
      obtain ⟨s1, s2, s3, s4, s5, s6, s7, s8, s9⟩ := SW.out
      have W1 : IntKind.i64.wrap ((m : Int) + 64) = (m : Int) + 64 := wrap_in (by omega) (by omega)
      have i1 : (m : Int) + 64 ≤ (n : Int) := by omega
      have i2 : (n : Int) ≤ (cap : Int) := by omega
      have i3 : (cap : Int) ≤ 9223372036854775807 := by omega
      have i4 : (0 : Int) ≤ (m : Int) + 64 := by omega
      have i5 : (m : Int) + 64 ≤ (cap : Int) := by omega
      have i6 : (m : Int) ≤ (m : Int) + 64 := by omega
      have i7 : ((m : Int) + 64).toNat = m + 64 := by omega
      have i8 : (m : Int) < (cap : Int) := by omega
      have i9 : ¬ cap = m := by omega
      have hb0 : Below wr.heap.size wr wr.drew := (brefl wr).drew
      go_wp2_with fail
      go_region_law (first | (go_simp; go_at_call 34; (with_reducible refine (MW.out _ _ (by assumption)).mono ?_); rintro e w' ⟨rfl, hb⟩; replace hb := bstep (a := wr) (by assumption) hb; obtain ⟨_, g1, g2, g3, g4, g5, g6, g7, g8⟩ := KP.out _ hb) | (go_simp; go_at_call 33; (with_reducible refine (MB.out _ (by assumption)).mono ?_); rintro e w' ⟨rfl, hb⟩; replace hb := bstep (a := wr) (by assumption) hb; obtain ⟨_, h1, h2, h3, h4, h5, h6, h7, h8⟩ := KP.out _ hb))
      all_goals
        have HZ := Lib.hid hb
        have HSZ := Lib.hid ((SW.out.below hb).set4 r)
        have HRZ := Lib.hid (RW.out.below hb)
        have HBZ := Lib.hid (HB.out.trans (hb.mono (Nat.le_of_lt SW.out.1)))
        go_wp2_with fail
        go_roundw
        case rel => exact ⟨t + 1, m + 64, by rw [hm.out]; omega, by omega, by go_num, by rw [NX.out]; exact HSZ.out, (((HBZ.out.setCell (Nat.le_refl _) _).setCell (Nat.le_refl _) _).setCell (Nat.le_refl _) _).setCell (Nat.le_refl _) _, HRZ.out.belowX (by omega) r⟩
        case measure => simp [intOf]; omega
    · have e0 : decide ((m : Int) + 64 ≤ (n : Int)) = false := by rw [decide_eq_false_iff_not]; omega
      obtain rfl : t = n / 64 := by have := hm.out; omega
      have FI := Lib.hid (rw0.set4 (mdGo f s (n / 64)))
      have FB := Lib.hid (((((WS.out.trans (hb.mono (Nat.le_refl _))).setCell (p := ⟨w.heap.size + 1, 0, none⟩) (show w.heap.size ≤ w.heap.size + 1 by omega) (.int .u32 (mdGo f s (n / 64)).a)).setCell (p := ⟨w.heap.size + 1, 1, none⟩) (show w.heap.size ≤ w.heap.size + 1 by omega) (.int .u32 (mdGo f s (n / 64)).b)).setCell (p := ⟨w.heap.size + 1, 2, none⟩) (show w.heap.size ≤ w.heap.size + 1 by omega) (.int .u32 (mdGo f s (n / 64)).c)).setCell (p := ⟨w.heap.size + 1, 3, none⟩) (show w.heap.size ≤ w.heap.size + 1 by omega) (.int .u32 (mdGo f s (n / 64)).d))
      obtain ⟨s1, s2, s3, s4, s5, s6, s7, s8, s9⟩ := sw
      obtain ⟨q1, q2, q3, q4, q5, q6, q7, q8, q9⟩ := rw0
      clear hb
      go_wp2_with fail
      refine bodyPost_ret (v := .agg (mdGo f s (n / 64)).v) (results_cell_mid rfl _ _ (w.heap.size + 1) _ _ rfl FI.out.range Tryd.underlying30 rfl (by exact info_a4)) rfl ⟨rfl, FB.out⟩
end Go.Proofs.YtenlbjnoiamfiaaDoor.Hs
