/-
  The contract of wire.cut.
  Conditions: none.
-/
import Derived.Test.YtmjbnbjkpimjmaaWiP
import Derived.Deep.RegionLaw
import Derived.IntWalk
namespace Go.Proofs.Ytmjbnbjkpimjmaa.Wi
open Go.RowKit Go.ChangeShapes Go.WideShapes Go.ChangeAt Go.Joins By
set_option linter.unusedVariables false
set_option linter.unusedSimpArgs false

theorem ownP_form {w : World} {base : Nat} {v : Value} {l : List Value} (h : OwnP w base v l) : ∃ a cap, v = .slice a l.length cap := by
  rcases h.1.2 with ⟨hv, h0⟩ | ⟨g, cap, cur, hv, _⟩
  · exact ⟨none, 0, by rw [hv, h0]⟩
  · exact ⟨_, cap, hv⟩
/-- what cut answers. -/
def CutP (f : Nat → Nat) (n B o cap : Nat) (w : World) (e : Ending) (w' : World) : Prop :=
  (dec f n = bad 23 ∧ e = .returned (.tuple #[pz, .int .i64 23])) ∨
  ∃ l a fv ad, cutp f n 8 48 = some (l, a) ∧ dec f n = ⟨0, pkAt f n l a, a⟩ ∧ e = .returned (.tuple #[.agg #[.slice (some ⟨B, o, none⟩) 48 cap, fv, .slice ad (n - a) (cap - a), .int .i64 (au (n - a))], .int .i64 0]) ∧ OwnP w' w.heap.size fv (vsl B o cap l) ∧ (0 < n - a → ad = some ⟨B, o + a, none⟩)
set_option maxRecDepth 100000 in
set_option maxHeartbeats 8000000 in
theorem cut_c {B o n cap : Nat} {f : Nat → Nat} {w : World} (H : Bs w B o n f) (hc : n ≤ cap) (hc2 : cap ≤ 9223372036854775807) (h1 : ¬ (n < 48 ∨ n % 4 ≠ 0)) (h2 : ¬ 1024 < n) (h3 : btw (hd f).ver 1 4 = true) :
    Calls Try.prog 27 #[.slice (some ⟨B, o, none⟩) n cap] w fun e w' => CutP f n B o cap w e w' ∧ Below w.heap.size w w' := by
  have DP := Lib.hid (dec_p h1 h2 h3)
  have q : (n : Int).tmod 4 = (n : Int) % 4 := Int.tmod_eq_emod_of_nonneg (by omega)
  have q0 : (48 : Int) ≤ (n : Int) := by omega
  have q1 : (n : Int) ≤ 1024 := by omega
  have q2 : (n : Int) ≤ (cap : Int) := by omega
  have q3 : (cap : Int) ≤ 9223372036854775807 := by omega
  have e1 : decide ((n : Int) < 48) = false := decide_eq_false (by omega)
  have e2 : ((n : Int) % 4 != 0) = false := by simp; omega
  have e3 : decide ((1024 : Int) < (n : Int)) = false := decide_eq_false (by omega)
  have n48 : 48 ≤ n := by omega
  have HV := Lib.hid (fun z (k : Below w.heap.size w z) => version_c cap (H.below k) (by omega))
  have HI := Lib.hid (fun z => isVersion_c (f 0 / 8 % 8 : Nat) z)
  have HX := Lib.hid H
  have hBw := H.1
  rw [ver_eq] at h3
  rw [h3] at HI
  obtain ⟨ad0, hif⟩ : ∃ ad0 : Option Addr, (if cap = 48 then some ⟨B, o, none⟩ else some ⟨B, o + 48, none⟩) = ad0 := ⟨_, rfl⟩
  have AD0 := Lib.hid (show 0 < n - 48 → ad0 = some ⟨B, o + 48, none⟩ from fun h => by rw [← hif, if_neg (by omega)])
  clear h1 H h3
  go_enter Try.func27, Try.ntmps27
  go_wp2_with fail
  refine (HV.out _ (balloc (brefl w) _)).mono ?_
  rintro e w1 ⟨rfl, rfl⟩
  generalize (f 0 / 8 % 8) = vv at *
  go_wp2_with fail
  refine (HI.out _).mono ?_
  rintro e w1 ⟨rfl, rfl⟩
  go_wp2_with fail
  have N0 := Blk.new' w #[.slice none 0 0, .slice none 0 0, .slice none 0 0, .int .i64 0] 63
  have B0 := balloc (brefl w) (.cells #[.slice none 0 0, .slice none 0 0, .slice none 0 0, .int .i64 0] 63)
  have z0 : (w.alloc (.cells #[.slice none 0 0, .slice none 0 0, .slice none 0 0, .int .i64 0] 63)).heap.size = w.heap.size + 1 := by simp
  generalize w.alloc (.cells #[.slice none 0 0, .slice none 0 0, .slice none 0 0, .int .i64 0] 63) = w1 at *
  have N1 := Blk.new' w1 #[.slice (some ⟨B, o, none⟩) 48 cap, .slice none 0 0, .slice none 0 0, .int .i64 0] 63
  have N0 := N0.below (balloc (brefl w1) (.cells #[.slice (some ⟨B, o, none⟩) 48 cap, .slice none 0 0, .slice none 0 0, .int .i64 0] 63))
  have B1 := Lib.hid (bstep B0 (balloc (brefl w1) (.cells #[.slice (some ⟨B, o, none⟩) 48 cap, .slice none 0 0, .slice none 0 0, .int .i64 0] 63)))
  have z1 : (w1.alloc (.cells #[.slice (some ⟨B, o, none⟩) 48 cap, .slice none 0 0, .slice none 0 0, .int .i64 0] 63)).heap.size = w.heap.size + 1 + 1 := by simp [z0]
  rw [z0] at N1
  generalize w1.alloc (.cells #[.slice (some ⟨B, o, none⟩) 48 cap, .slice none 0 0, .slice none 0 0, .int .i64 0] 63) = w2 at *
  have N0' := Lib.hid N0
  have N1' := Lib.hid N1
  have Z1 := Lib.hid z1
  clear N0 N1 B0 HV HI z0 z1 e1 e2 e3 q
  go_loopw [5] (fun v wr => ∃ (r a : Nat) (ad : Option Addr) (dn : List (Nat × Nat)) (fv : Value), v = .slice ad (n - a) (cap - a) ∧ a ≤ n ∧ r + dn.length = 8 ∧ (0 < n - a → ad = some ⟨B, o + a, none⟩) ∧ (cutp f n 8 48 = (cutp f n r a).map fun x => (dn ++ x.1, x.2)) ∧ OwnP wr (w.heap.size + 1 + 1) fv (vsl B o cap dn) ∧ Blk wr w.heap.size [.slice none 0 0, .slice none 0 0, .slice none 0 0, .int .i64 0] ∧ Blk wr (w.heap.size + 1) [.slice (some ⟨B, o, none⟩) 48 cap, fv, .slice none 0 0, .int .i64 0] ∧ Below w.heap.size w wr ∧ w.heap.size + 1 + 1 ≤ wr.heap.size) (fun v _ => sl v)
  case atStart =>
    refine ⟨8, 48, _, [], .slice none 0 0, rfl, n48, rfl, AD0.out, ?_, OwnP.nil _ _, N0'.out, N1'.out, B1.out, by rw [Z1.out]; exact Nat.le_refl _⟩
    cases cutp f n 8 48 with
    | none => rfl
    | some x => rfl
  case round =>
    obtain ⟨r, a, ad, dn, fv, rfl, ha, hr, had, hcut, own, n0, n1, hb, hs⟩ := hrel
    rename World => wr
    have N0 := Lib.hid n0
    have N1 := Lib.hid n1
    have OW := Lib.hid own
    have BB := Lib.hid hb
    have HS := Lib.hid hs
    have CUT := Lib.hid hcut
    have AD := Lib.hid had
    have HR := Lib.hid hr
    have BP := Lib.hid ((HX.out.below hb).part a (n - a) (by omega))
    obtain ⟨m, hm⟩ : ∃ m, m = n - a := ⟨_, rfl⟩
    obtain ⟨K, hK⟩ : ∃ K, K = cap - a := ⟨_, rfl⟩
    have MM := Lib.hid (And.intro hm hK)
    rw [← hm] at BP AD ⊢
    rw [← hK]
    have k1 : (m : Int) ≤ (K : Int) := by omega
    have k2 : (K : Int) ≤ 9223372036854775807 := by omega
    have k3 : (0 : Int) ≤ (m : Int) := by omega
    have k4 : (m : Int) ≤ 1024 := by omega
    clear n0 n1 own hb hs hcut had hr hm hK N0' N1' B1 Z1
    by_cases c : 24 < m
    · obtain rfl := AD.out (by omega)
      have kc : (24 : Int) < (m : Int) := by omega
      have kd : (24 : Int) < (K : Int) := by omega
      have nk : ¬ K = 2 := by omega
      obtain ⟨g, hg⟩ : ∃ g, g = gt f (a + 2) 2 := ⟨_, rfl⟩
      have GL := gt_lt HX.out.2.1 (a + 2) 2
      rw [← hg] at GL
      have HN := Lib.hid (number_at (K - 2) BP.out 2 2 (by omega) (by omega))
      rw [gt_shift, ← hg] at HN
      have HL := Lib.hid (fun z => isFieldLength_c g z)
      have gi : (g : Int) < 65536 := by omega
      have gj : (0 : Int) ≤ (g : Int) := by omega
      have HG := Lib.hid hg
      clear hg GL
      obtain ⟨fa, fc, ef⟩ := ownP_form OW.out
      rw [vsl_len] at ef
      subst ef
      have d8 : (dn.length : Int) ≤ 8 := by have := HR.out; omega
      have BAD : Hid (¬ (okL g = true ∧ g ≤ m ∧ dn.length ≠ 8) → dec f n = bad 23) := Lib.hid (fun h => by
        rw [DP.out, CUT.out]
        have e : cutp f n r a = none := by
          have h24 : ¬ n - a ≤ 24 := by have := MM.out.1; omega
          cases r with
          | zero => rw [cutp, if_neg h24]
          | succ r =>
            rw [cutp, if_neg h24, if_neg]
            rintro ⟨x1, x2, x3⟩
            rw [← HG.out] at x1 x2 x3
            exact h ⟨by simp [okL, x1, x2], by have := MM.out.1; omega, by have := HR.out; omega⟩
        rw [e]
        rfl)
      go_wp2_with fail
      refine HN.out.mono ?_
      rintro e w3 ⟨rfl, rfl⟩
      go_wp2_with fail
      refine (HL.out _).mono ?_
      rintro e w3 ⟨rfl, rfl⟩
      have t1 := (N1.out.2 1 _ rfl).1
      obtain ⟨y0, u0⟩ := N0.out.2 0 _ rfl
      obtain ⟨y1, u1⟩ := N0.out.2 1 _ rfl
      obtain ⟨y2, u2⟩ := N0.out.2 2 _ rfl
      obtain ⟨y3, u3⟩ := N0.out.2 3 _ rfl
      have ERR : Hid (Blk ((((w3.setCell ⟨w.heap.size, 0, none⟩ (.slice none 0 0)).setCell ⟨w.heap.size, 1, none⟩ (.slice none 0 0)).setCell ⟨w.heap.size, 2, none⟩ (.slice none 0 0)).setCell ⟨w.heap.size, 3, none⟩ (.int .i64 0)) w.heap.size [.slice none 0 0, .slice none 0 0, .slice none 0 0, .int .i64 0] ∧ Below w.heap.size w ((((w3.setCell ⟨w.heap.size, 0, none⟩ (.slice none 0 0)).setCell ⟨w.heap.size, 1, none⟩ (.slice none 0 0)).setCell ⟨w.heap.size, 2, none⟩ (.slice none 0 0)).setCell ⟨w.heap.size, 3, none⟩ (.int .i64 0))) := Lib.hid ⟨(blk_set (blk_set (blk_set (blk_set N0.out 0 (.slice none 0 0)) 1 (.slice none 0 0)) 2 (.slice none 0 0)) 3 (.int .i64 0)), (Below.setCell (p := ⟨w.heap.size, 3, none⟩) (Below.setCell (p := ⟨w.heap.size, 2, none⟩) (Below.setCell (p := ⟨w.heap.size, 1, none⟩) (Below.setCell (p := ⟨w.heap.size, 0, none⟩) BB.out (Nat.le_refl _) (.slice none 0 0)) (Nat.le_refl _) (.slice none 0 0)) (Nat.le_refl _) (.slice none 0 0)) (Nat.le_refl _) (.int .i64 0))⟩
      by_cases g1 : okL g = true
      · rw [g1]
        by_cases g2 : m < g
        · have e2 : decide (m < g) = true := decide_eq_true (by omega)
          have D := Lib.hid (BAD.out (fun h => by omega))
          clear g1 g2 BAD
          go_wp2_with fail
          exact bodyPost_ret (v := .tuple #[.agg #[.slice none 0 0, .slice none 0 0, .slice none 0 0, .int .i64 0], .int .i64 23]) (by simp [results, Try.results27, go_sem, (ERR.out.1.2 0 _ rfl).1, (ERR.out.1.2 1 _ rfl).1, (ERR.out.1.2 2 _ rfl).1, (ERR.out.1.2 3 _ rfl).1]) rfl ⟨.inl ⟨D.out, rfl⟩, ERR.out.2⟩
        · have e2 : decide (m < g) = false := decide_eq_false (by omega)
          by_cases g3 : dn.length = 8
          · have e3 : ((dn.length : Int) == 8) = true := by simp; omega
            have D := Lib.hid (BAD.out (fun h => h.2.2 g3))
            clear g1 g2 g3 BAD
            go_wp2_with fail
            exact bodyPost_ret (v := .tuple #[.agg #[.slice none 0 0, .slice none 0 0, .slice none 0 0, .int .i64 0], .int .i64 23]) (by simp [results, Try.results27, go_sem, (ERR.out.1.2 0 _ rfl).1, (ERR.out.1.2 1 _ rfl).1, (ERR.out.1.2 2 _ rfl).1, (ERR.out.1.2 3 _ rfl).1]) rfl ⟨.inl ⟨D.out, rfl⟩, ERR.out.2⟩
          · have e3 : ((dn.length : Int) == 8) = false := by simp; omega
            have GG := Lib.hid (And.intro g1 (And.intro g2 g3))
            clear g1 g2 g3 BAD ERR
            have gm : (g : Int) ≤ (m : Int) := by have := GG.out; omega
            have gK : (g : Int) ≤ (K : Int) := by omega
            obtain ⟨ad2, hif2⟩ : ∃ ad2 : Option Addr, (if K = g then some ⟨B, o + a, none⟩ else some ⟨B, o + a + g, none⟩) = ad2 := ⟨_, rfl⟩
            have AD2 := Lib.hid (show 0 < m - g → ad2 = some ⟨B, o + a + g, none⟩ from fun h => by rw [← hif2, if_neg (by omega)])
            have lt1 : w.heap.size + 1 < w3.heap.size := N1.out.1
            have OD : OwnP w3.drew (w.heap.size + 1 + 1) (.slice fa dn.length fc) (vsl B o cap dn) := OW.out
            obtain ⟨v', w4, hr4, ow4, b4, g4⟩ := appP OD (.slice (some ⟨B, o + a, none⟩) g K) rfl HS.out (by rw [vsl_len]; have := HR.out; omega) 61
            obtain ⟨fa', fc', ev⟩ := ownP_form ow4
            rw [List.length_append, vsl_len, List.length_singleton] at ev
            subst ev
            have no0 : (Value.slice fa dn.length fc).ownBlock ≠ some w.heap.size := fun e => by have := (OW.out.1.lt _ e).1; omega
            have no1 : (Value.slice fa dn.length fc).ownBlock ≠ some (w.heap.size + 1) := fun e => by have := (OW.out.1.lt _ e).1; omega
            have M0 := g4.blk (b := w.heap.size) N0.out no0
            have M1 := g4.blk (b := w.heap.size + 1) N1.out no1
            have nv := g4.not (b := w.heap.size + 1) N1.out.1 no1
            obtain ⟨p1, p2⟩ := M1.2 1 _ rfl
            have FIN : Hid (OwnP (w4.setCell ⟨w.heap.size + 1, 1, none⟩ (.slice fa' (dn.length + 1) fc')) (w.heap.size + 1 + 1) (.slice fa' (dn.length + 1) fc') (vsl B o cap (dn ++ [(a, g)])) ∧ Blk (w4.setCell ⟨w.heap.size + 1, 1, none⟩ (.slice fa' (dn.length + 1) fc')) w.heap.size [.slice none 0 0, .slice none 0 0, .slice none 0 0, .int .i64 0] ∧ Blk (w4.setCell ⟨w.heap.size + 1, 1, none⟩ (.slice fa' (dn.length + 1) fc')) (w.heap.size + 1) [.slice (some ⟨B, o, none⟩) 48 cap, .slice fa' (dn.length + 1) fc', .slice none 0 0, .int .i64 0] ∧ Below w.heap.size w (w4.setCell ⟨w.heap.size + 1, 1, none⟩ (.slice fa' (dn.length + 1) fc')) ∧ w.heap.size + 1 + 1 ≤ (w4.setCell ⟨w.heap.size + 1, 1, none⟩ (.slice fa' (dn.length + 1) fc')).heap.size) := Lib.hid ⟨⟨by
                rw [vsl_snoc]
                have := row_set ow4.1 nv 1 (.slice fa' (dn.length + 1) fc')
                rwa [← MM.out.2], by rw [vsl_snoc, ← MM.out.2]; exact ow4.2⟩, blk_other M0 (by omega) 1 _, blk_set M1 1 _, (BB.out.drew.trans (b4.mono (by omega))).setCell (p := ⟨w.heap.size + 1, 1, none⟩) (by simp) _, by have := g4.1; have h3 := HS.out; simp only [World.setCell, Array.size_modify]; exact Nat.le_trans h3 this⟩
            have RA := Lib.hid hr4
            have NEXT : Hid (n - (a + g) = m - g ∧ cap - (a + g) = K - g ∧ a + g ≤ n ∧ ∃ r', r = r' + 1 ∧ (cutp f n 8 48 = (cutp f n r' (a + g)).map fun x => ((dn ++ [(a, g)]) ++ x.1, x.2))) := Lib.hid (by
              obtain ⟨y1, y2, y3⟩ := GG.out
              obtain ⟨z1, z2⟩ := MM.out
              refine ⟨by omega, by omega, by omega, ?_⟩
              cases r with
              | zero => have := HR.out; omega
              | succ r' =>
                refine ⟨r', rfl, ?_⟩
                rw [CUT.out, cutp, if_neg (by omega), ← HG.out, if_pos (by
                  simp only [okL, Bool.and_eq_true, decide_eq_true_eq] at y1
                  exact ⟨y1.1, y1.2, by omega⟩)]
                cases cutp f n r' (a + g) with
                | none => rfl
                | some x => simp)
            have cw : ∀ ob, (w3.drew.alloc ob).cell? ⟨w.heap.size + 1, 1, none⟩ = some (.slice fa dn.length fc) := fun ob => (((balloc (brefl w3.drew) ob).cell (p := ⟨w.heap.size + 1, 1, none⟩) lt1)).trans t1
            clear hr4 ow4 b4 g4 M0 M1 no0 no1 nv OD N0 N1 OW HN HL BP hif y0 y1 y2 y3 u0 u1 u2 u3
            go_wp2_with fail
            go_region_law (refine step_append_eq rfl (.tmp 57) (.tmp 61) 61 rfl _ _ (.slice fa' (dn.length + 1) fc') w4 rfl rfl RA.out ?_)
            all_goals
              generalize w4.setCell ⟨w.heap.size + 1, 1, none⟩ (.slice fa' (dn.length + 1) fc') = w5 at *
              go_wp2_with fail
              refine ⟨?_, ?_⟩
              · obtain ⟨x1, x2, x3, r', x4, x5⟩ := NEXT.out
                obtain ⟨f1, f2, f3, f4, f5⟩ := FIN.out
                exact ⟨r', a + g, ad2, dn ++ [(a, g)], _, by rw [x1, x2], x3, by have := HR.out; rw [List.length_append]; simp; omega, by rw [x1, ← Nat.add_assoc]; exact AD2.out, x5, f1, f2, f3, f4, f5⟩
              · obtain ⟨y1, y2, y3⟩ := GG.out
                simp only [okL, Bool.and_eq_true, decide_eq_true_eq] at y1
                show m - g < m
                omega
      · have g1' : okL g = false := by simpa using g1
        rw [g1']
        have D := Lib.hid (BAD.out (fun h => g1 h.1))
        clear g1 g1' BAD
        go_wp2_with fail
        exact bodyPost_ret (v := .tuple #[.agg #[.slice none 0 0, .slice none 0 0, .slice none 0 0, .int .i64 0], .int .i64 23]) (by simp [results, Try.results27, go_sem, (ERR.out.1.2 0 _ rfl).1, (ERR.out.1.2 1 _ rfl).1, (ERR.out.1.2 2 _ rfl).1, (ERR.out.1.2 3 _ rfl).1]) rfl ⟨.inl ⟨D.out, rfl⟩, ERR.out.2⟩
    · have kc : (m : Int) ≤ 24 := by omega
      have kd : decide ((24 : Int) < (m : Int)) = false := decide_eq_false (by omega)
      have HA := Lib.hid (authOf_c (cap := K) (show Rn wr ad m (fun i => f (a + i)) from ⟨fun i => HX.out.2.1 _, fun h => ⟨B, o + a, AD.out h, BP.out⟩⟩))
      have R : Hid (dec f n = if ab (fun i => f (a + i)) m = true then ⟨0, pkAt f n dn a, a⟩ else bad 23) := Lib.hid (by
        obtain ⟨z1, z2⟩ := MM.out
        rw [DP.out, CUT.out]
        have e : cutp f n r a = some ([], a) := by
          cases r with
          | zero => rw [cutp, if_pos (by omega)]
          | succ r => rw [cutp, if_pos (by omega)]
        rw [e, z1]
        simp)
      have CE : Hid (cutp f n 8 48 = some (dn, a)) := Lib.hid (by
        obtain ⟨z1, z2⟩ := MM.out
        rw [CUT.out]
        have e : cutp f n r a = some ([], a) := by
          cases r with
          | zero => rw [cutp, if_pos (by omega)]
          | succ r => rw [cutp, if_pos (by omega)]
        rw [e]
        simp)
      have AU : Hid (au m = au (n - a)) := Lib.hid (by rw [MM.out.1])
      generalize ab (fun i => f (a + i)) m = bb at *
      generalize au m = am at *
      obtain ⟨y0, u0⟩ := N0.out.2 0 _ rfl
      obtain ⟨y1, u1⟩ := N0.out.2 1 _ rfl
      obtain ⟨y2, u2⟩ := N0.out.2 2 _ rfl
      obtain ⟨y3, u3⟩ := N0.out.2 3 _ rfl
      go_wp2_with fail
      refine HA.out.mono ?_
      rintro e w3 ⟨rfl, rfl⟩
      cases bb with
      | false =>
        have ERR : Hid (Blk ((((w3.setCell ⟨w.heap.size, 0, none⟩ (.slice none 0 0)).setCell ⟨w.heap.size, 1, none⟩ (.slice none 0 0)).setCell ⟨w.heap.size, 2, none⟩ (.slice none 0 0)).setCell ⟨w.heap.size, 3, none⟩ (.int .i64 0)) w.heap.size [.slice none 0 0, .slice none 0 0, .slice none 0 0, .int .i64 0] ∧ Below w.heap.size w ((((w3.setCell ⟨w.heap.size, 0, none⟩ (.slice none 0 0)).setCell ⟨w.heap.size, 1, none⟩ (.slice none 0 0)).setCell ⟨w.heap.size, 2, none⟩ (.slice none 0 0)).setCell ⟨w.heap.size, 3, none⟩ (.int .i64 0))) := Lib.hid ⟨(blk_set (blk_set (blk_set (blk_set N0.out 0 (.slice none 0 0)) 1 (.slice none 0 0)) 2 (.slice none 0 0)) 3 (.int .i64 0)), (Below.setCell (p := ⟨w.heap.size, 3, none⟩) (Below.setCell (p := ⟨w.heap.size, 2, none⟩) (Below.setCell (p := ⟨w.heap.size, 1, none⟩) (Below.setCell (p := ⟨w.heap.size, 0, none⟩) BB.out (Nat.le_refl _) (.slice none 0 0)) (Nat.le_refl _) (.slice none 0 0)) (Nat.le_refl _) (.slice none 0 0)) (Nat.le_refl _) (.int .i64 0))⟩
        have D := Lib.hid (show dec f n = bad 23 by rw [R.out]; rfl)
        go_wp2_with fail
        exact bodyPost_ret (v := .tuple #[.agg #[.slice none 0 0, .slice none 0 0, .slice none 0 0, .int .i64 0], .int .i64 23]) (by simp [results, Try.results27, go_sem, (ERR.out.1.2 0 _ rfl).1, (ERR.out.1.2 1 _ rfl).1, (ERR.out.1.2 2 _ rfl).1, (ERR.out.1.2 3 _ rfl).1]) rfl ⟨.inl ⟨D.out, rfl⟩, ERR.out.2⟩
      | true =>
        have D := Lib.hid (show dec f n = ⟨0, pkAt f n dn a, a⟩ by rw [R.out]; rfl)
        obtain ⟨fa, fc, ef⟩ := ownP_form OW.out
        rw [vsl_len] at ef
        subst ef
        have M1 := Lib.hid (blk_set (blk_set N1.out 2 (.slice ad m K)) 3 (.int .i64 am))
        have no0 : (Value.slice fa dn.length fc).ownBlock ≠ some w.heap.size := fun e => by have := (OW.out.1.lt _ e).1; omega
        have no1 : (Value.slice fa dn.length fc).ownBlock ≠ some (w.heap.size + 1) := fun e => by have := (OW.out.1.lt _ e).1; omega
        have O1 := row_set (row_set OW.out.1 no1 2 (.slice ad m K)) no1 3 (.int .i64 am)
        have M0 := blk_other (blk_other N0.out (by omega : w.heap.size ≠ w.heap.size + 1) 2 (.slice ad m K)) (by omega : w.heap.size ≠ w.heap.size + 1) 3 (.int .i64 am)
        have L1 := (BB.out.setCell (p := ⟨w.heap.size + 1, 2, none⟩) (by simp) (.slice ad m K)).setCell (p := ⟨w.heap.size + 1, 3, none⟩) (by simp) (.int .i64 am)
        obtain ⟨a0, b0⟩ := N1.out.2 0 _ rfl
        obtain ⟨a1, b1⟩ := N1.out.2 1 _ rfl
        obtain ⟨a2, b2⟩ := N1.out.2 2 _ rfl
        obtain ⟨a3, b3⟩ := N1.out.2 3 _ rfl
        have M0 := Lib.hid M0
        have O1 := Lib.hid (row_set (row_set (row_set (row_set O1 no0 0 (.slice (some ⟨B, o, none⟩) 48 cap)) no0 1 (.slice fa dn.length fc)) no0 2 (.slice ad m K)) no0 3 (.int .i64 am))
        have F0 := Lib.hid (blk_set (blk_set (blk_set (blk_set M0.out 0 (.slice (some ⟨B, o, none⟩) 48 cap)) 1 (.slice fa dn.length fc)) 2 (.slice ad m K)) 3 (.int .i64 am))
        have L0 := Lib.hid ((((L1.setCell (p := ⟨w.heap.size, 0, none⟩) (Nat.le_refl _) (.slice (some ⟨B, o, none⟩) 48 cap)).setCell (p := ⟨w.heap.size, 1, none⟩) (Nat.le_refl _) (.slice fa dn.length fc)).setCell (p := ⟨w.heap.size, 2, none⟩) (Nat.le_refl _) (.slice ad m K)).setCell (p := ⟨w.heap.size, 3, none⟩) (Nat.le_refl _) (.int .i64 am))
        have OV := Lib.hid OW.out.2
        clear L1 no0 no1 R HA hif N0 N1 OW
        go_wp2_with fail
        exact bodyPost_ret (v := .tuple #[.agg #[.slice (some ⟨B, o, none⟩) 48 cap, .slice fa dn.length fc, .slice ad m K, .int .i64 am], .int .i64 0]) (by simp [results, Try.results27, go_sem, (F0.out.2 0 _ rfl).1, (F0.out.2 1 _ rfl).1, (F0.out.2 2 _ rfl).1, (F0.out.2 3 _ rfl).1]) rfl ⟨.inr ⟨dn, a, .slice fa dn.length fc, ad, CE.out, D.out, by rw [← AU.out, ← MM.out.1, ← MM.out.2], ⟨row_le O1.out (by omega), OV.out⟩, by rw [← MM.out.1]; exact AD.out⟩, L0.out⟩
end Go.Proofs.Ytmjbnbjkpimjmaa.Wi
