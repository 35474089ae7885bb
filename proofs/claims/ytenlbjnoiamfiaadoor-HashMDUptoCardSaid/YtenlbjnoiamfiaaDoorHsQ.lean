/-
  The contract of hash.sha256Blocks.
  Conditions: the tables read as the program's text lays them.
-/
import Derived.Test.YtenlbjnoiamfiaaDoorHsO
namespace Go.Proofs.YtenlbjnoiamfiaaDoor.Hs
open Go.RowKit
set_option linter.unusedVariables false
set_option linter.unusedSimpArgs false

theorem shaX_lt {M : Nat → Nat} (h : ∀ i, i < 16 → M i < 4294967296) : ∀ t i, shaX M t i < 4294967296
  | 0, i => by
    show (if i < 16 then M i else 0) < _
    split
    · exact h i (by assumption)
    · omega
  | t + 1, i => by
    show up _ _ _ i < _
    unfold up
    split
    · exact Nat.mod_lt _ (by omega)
    · exact shaX_lt h t i

set_option maxRecDepth 100000 in
set_option maxHeartbeats 4000000 in
theorem sha256Blocks_c (s : S8) (b off n cap : Nat) (f : Nat → Nat) (w : World) (G : Gl w) (hs : s.ok) (B : Bs w b off n f) (hn : n ≤ 140737488351232) (hc : n ≤ cap) (hcap : cap ≤ 9223372036854775807) :
    Calls Tryd.prog 27 #[.agg #[.int .u32 s.a, .int .u32 s.b, .int .u32 s.c, .int .u32 s.d, .int .u32 s.e, .int .u32 s.f, .int .u32 s.g, .int .u32 s.h], .slice (some ⟨b, off, none⟩) n cap] w fun e w' => e = .returned (.agg (shaGo f s (n / 64)).v) ∧ Below w.heap.size w w' := by
  have WS := Lib.hid (balloc (balloc (brefl w) (.cells #[.int .u32 s.a, .int .u32 s.b, .int .u32 s.c, .int .u32 s.d, .int .u32 s.e, .int .u32 s.f, .int .u32 s.g, .int .u32 s.h] 46)) (.cells #[.int .u32 0, .int .u32 0, .int .u32 0, .int .u32 0, .int .u32 0, .int .u32 0, .int .u32 0, .int .u32 0] 46))
  have GL := Lib.hid (G.below WS.out)
  have BL := Lib.hid (B.below WS.out)
  have S0 := Lib.hid ((Ew.new w s 46).below (balloc (brefl _) (.cells #[.int .u32 0, .int .u32 0, .int .u32 0, .int .u32 0, .int .u32 0, .int .u32 0, .int .u32 0, .int .u32 0] 46)))
  have R0 := Lib.hid (Ew.new (w.alloc (.cells #[.int .u32 s.a, .int .u32 s.b, .int .u32 s.c, .int .u32 s.d, .int .u32 s.e, .int .u32 s.f, .int .u32 s.g, .int .u32 s.h] 46)) ⟨0, 0, 0, 0, 0, 0, 0, 0⟩ 46)
  rw [show (w.alloc (.cells #[.int .u32 s.a, .int .u32 s.b, .int .u32 s.c, .int .u32 s.d, .int .u32 s.e, .int .u32 s.f, .int .u32 s.g, .int .u32 s.h] 46)).heap.size = w.heap.size + 1 from by simp] at R0
  replace R0 : Hid (Ew ((w.alloc (.cells #[.int .u32 s.a, .int .u32 s.b, .int .u32 s.c, .int .u32 s.d, .int .u32 s.e, .int .u32 s.f, .int .u32 s.g, .int .u32 s.h] 46)).alloc (.cells #[.int .u32 0, .int .u32 0, .int .u32 0, .int .u32 0, .int .u32 0, .int .u32 0, .int .u32 0, .int .u32 0] 46)) (w.heap.size + 1) ⟨0, 0, 0, 0, 0, 0, 0, 0⟩) := R0
  have GO := Lib.hid (shaGo_ok (F := f) hs)
  have L1 := B.1
  have L3 := G.size
  clear G B
  go_enter Tryd.func27, Tryd.ntmps27
  go_wp2_with fail
  generalize (w.alloc (.cells #[.int .u32 s.a, .int .u32 s.b, .int .u32 s.c, .int .u32 s.d, .int .u32 s.e, .int .u32 s.f, .int .u32 s.g, .int .u32 s.h] 46)).alloc (.cells #[.int .u32 0, .int .u32 0, .int .u32 0, .int .u32 0, .int .u32 0, .int .u32 0, .int .u32 0, .int .u32 0] 46) = W0 at *
  go_loopw [5] (fun i wr => ∃ t m : Nat, m = 64 * t ∧ m ≤ n ∧ i = .int .i64 m ∧ Ew wr w.heap.size (shaGo f s t) ∧ Below w.heap.size W0 wr ∧ Ew wr (w.heap.size + 1) ⟨0, 0, 0, 0, 0, 0, 0, 0⟩) (fun i _ => n - (intOf i).toNat)
  case atStart => exact ⟨0, 0, rfl, by omega, rfl, S0.out, Below.refl _ _, R0.out⟩
  case round =>
    obtain ⟨t, m, hm0, hmn, rfl, sw, hb, rw0⟩ := hrel
    rename World => wr
    have hm := Lib.hid hm0
    clear hm0
    have k0 : (0 : Int) ≤ (m : Int) := by omega
    have k1 : (m : Int) ≤ 140737488351232 := by omega
    have k2 : (n : Int) ≤ 140737488351232 := by omega
    have HB := Lib.hid hb
    have SW := Lib.hid sw
    have RW := Lib.hid rw0
    by_cases c : m + 64 ≤ n
    · have e0 : decide ((m : Int) + 64 ≤ (n : Int)) = true := by rw [decide_eq_true_iff]; omega
      have OK := Lib.hid (GO.out t)
      have BW := Lib.hid ((BL.out.belowB (by omega) hb).part m 64 c)
      have GW := Lib.hid (GL.out.belowB L3 hb)
      have NX : Hid (shaGo f s (t + 1) = shaAdd (shaGo f s t) (shaRun (shaX (fun g => wrd false (fun i => f (m + i)) (4 * g)) 48) (shaGo f s t) 64)) := Lib.hid (by
        rw [hm.out]
        show shaAdd _ (shaRun (shaX (fun g => wrd false f (64 * t + 4 * g)) 48) _ 64) = _
        congr 2)
      clear sw hb rw0
      generalize shaGo f s t = st at *
      have MW := Lib.hid (fun w2 cp (k : Below wr.heap.size wr w2) => sha256Words_c b (off + m) cp (fun i => f (m + i)) w2 (BW.out.below k))
      have MB := Lib.hid (fun w2 (k : Below wr.heap.size wr w2) => sha256Block_c st (shaX (fun g => wrd false (fun i => f (m + i)) (4 * g)) 48) w2 (GW.out.below k) OK.out (fun i _ => shaX_lt (fun i _ => wrd_lt false _ (fun j => BW.out.2.1 j) _) _ _))
      generalize shaAdd st (shaRun (shaX (fun g => wrd false (fun i => f (m + i)) (4 * g)) 48) st 64) = r at *
      generalize shaX (fun g => wrd false (fun i => f (m + i)) (4 * g)) 48 = sx at *
      replace MB : Hid (∀ w2, Below wr.heap.size wr w2 → Calls Tryd.prog 35 #[.agg #[.int .u32 st.a, .int .u32 st.b, .int .u32 st.c, .int .u32 st.d, .int .u32 st.e, .int .u32 st.f, .int .u32 st.g, .int .u32 st.h], .agg (wc sx 64).toArray] w2 fun e w' => e = .returned (.agg #[.int .u32 r.a, .int .u32 r.b, .int .u32 r.c, .int .u32 r.d, .int .u32 r.e, .int .u32 r.f, .int .u32 r.g, .int .u32 r.h]) ∧ Below w2.heap.size w2 w') := MB
      have KP := Lib.hid (fun w2 (k : Below wr.heap.size wr w2) => (SW.out.below k))
      obtain ⟨z0, c0, c1, c2, c3, c4, c5, c6, c7, f0, f1, f2, f3, f4, f5, f6, f7⟩ := SW.out
      have W1 : IntKind.i64.wrap ((m : Int) + 64) = (m : Int) + 64 := wrap_in (by omega) (by omega)
      have i1 : (m : Int) + 64 ≤ (n : Int) := by omega
      have i2 : (n : Int) ≤ (cap : Int) := by omega
      have i3 : (cap : Int) ≤ 9223372036854775807 := by omega
      have i4 : (0 : Int) ≤ (m : Int) + 64 := by omega
      have i5 : (m : Int) + 64 ≤ (cap : Int) := by omega
      have i6 : (m : Int) ≤ (m : Int) + 64 := by omega
      have i7 : ((m : Int) + 64).toNat = m + 64 := by omega
      have i8 : (m : Int) < (cap : Int) := by omega
      have i9 : ¬ cap = m := by omega
      have hb0 : Below wr.heap.size wr wr.drew := (brefl wr).drew
      go_wp2_with fail
      go_region_law (first | (go_simp; go_at_call 36; (with_reducible refine (MW.out _ _ (by assumption)).mono ?_); rintro e w' ⟨rfl, hb⟩; replace hb := bstep (a := wr) (by assumption) hb; obtain ⟨_, g0, g1, g2, g3, g4, g5, g6, g7, y0, y1, y2, y3, y4, y5, y6, y7⟩ := KP.out _ hb) | (go_simp; go_at_call 35; (with_reducible refine (MB.out _ (by assumption)).mono ?_); rintro e w' ⟨rfl, hb⟩; replace hb := bstep (a := wr) (by assumption) hb; obtain ⟨_, h0, h1, h2, h3, h4, h5, h6, h7, x0, x1, x2, x3, x4, x5, x6, x7⟩ := KP.out _ hb))
      all_goals
        have HZ := Lib.hid hb
        have HSZ := Lib.hid ((SW.out.below hb).setr r)
        have HRZ := Lib.hid (RW.out.below hb)
        have HBZ := Lib.hid (below_setr (HB.out.trans (hb.mono (Nat.le_of_lt SW.out.1))) (Nat.le_refl _) r)
        go_wp2_with fail
        go_roundw
        case rel => exact ⟨t + 1, m + 64, by rw [hm.out]; omega, by omega, by go_num, by rw [NX.out]; exact HSZ.out, HBZ.out, HRZ.out.otherr (by omega) r⟩
        case measure => simp [intOf]; omega
    · have e0 : decide ((m : Int) + 64 ≤ (n : Int)) = false := by rw [decide_eq_false_iff_not]; omega
      obtain rfl : t = n / 64 := by have := hm.out; omega
      have FI := Lib.hid (rw0.setr (shaGo f s (n / 64)))
      have FB := Lib.hid (below_setr (b := w.heap.size + 1) (WS.out.trans (hb.mono (Nat.le_refl _))) (by omega) (shaGo f s (n / 64)))
      obtain ⟨z0, c0, c1, c2, c3, c4, c5, c6, c7, f0, f1, f2, f3, f4, f5, f6, f7⟩ := sw
      obtain ⟨q0, d0, d1, d2, d3, d4, d5, d6, d7, g0, g1, g2, g3, g4, g5, g6, g7⟩ := rw0
      clear hb
      go_wp2_with fail
      refine bodyPost_ret (v := .agg (shaGo f s (n / 64)).v) (results_cell_mid rfl _ _ (w.heap.size + 1) _ _ rfl FI.out.range Tryd.underlying46 rfl (by exact info_a8)) rfl ⟨rfl, FB.out⟩
end Go.Proofs.YtenlbjnoiamfiaaDoor.Hs
