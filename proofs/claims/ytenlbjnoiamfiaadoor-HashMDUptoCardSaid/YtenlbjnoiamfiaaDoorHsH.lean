/-
  The contract of sundialref04.MD5: the digest of bytes, in a slice of the call's own.
  Conditions: no more than 2^47 - 4096 bytes.
-/
import Derived.Test.YtenlbjnoiamfiaaDoorHsG
namespace Go.Proofs.YtenlbjnoiamfiaaDoor.Hs
open Go.RowKit
set_option linter.unusedVariables false
set_option linter.unusedSimpArgs false

theorem brefl (w : World) : Below w.heap.size w w := Below.refl _ _
theorem balloc {a b : World} (h : Below a.heap.size a b) (o : Obj) : Below a.heap.size a (b.alloc o) := h.alloc h.size o
theorem bstep {a b c : World} (h : Below a.heap.size a b) (k : Below b.heap.size b c) : Below a.heap.size a c := h.trans (k.mono h.size)
theorem bdrew {a b : World} (h : Below a.heap.size a b) (n : Nat) : Below a.heap.size a (b.drewN n) := h.trans ⟨rfl, rfl, rfl, Nat.le_refl _, fun _ _ => rfl⟩
theorem Own.le {w : World} {base base' : Nat} {v : Value} {l : List Nat} (h : Own w base v l) (hb : base' ≤ base) : Own w base' v l :=
  ⟨h.1, h.2.elim Or.inl (fun ⟨g, cap, cur, hv, hg, r⟩ => Or.inr ⟨g, cap, cur, hv, Nat.le_trans hb hg, r⟩)⟩
theorem pd_byte {low : Bool} {f : Nat → Nat} {n : Nat} (hf : ∀ i, f i < 256) : ∀ x ∈ pd low f n, x < 256 := by
  intro x hx
  simp only [pd, bl, lb, List.mem_append, List.mem_map, List.mem_range, List.mem_cons, List.mem_replicate, List.not_mem_nil, or_false] at hx
  rcases hx with ((⟨i, _, rfl⟩ | rfl) | ⟨_, rfl⟩) | ⟨i, _, rfl⟩
  · exact hf i
  · omega
  · omega
  · unfold lbAt; omega
theorem rmdTable_b (w : World) :
    Calls Tryd.prog 22 #[] w fun e w' => e = .returned (.slice (some ⟨w.heap.size, 0, none⟩) 64 64) ∧ Ws w' w.heap.size 0 64 mdK ∧ Below w.heap.size w w' :=
  (rmdTable_c w).mono fun e w' ⟨he, hw⟩ => by
    subst hw
    exact ⟨he, cells_ws (l := mdKs) (by decide), balloc (brefl w) _⟩
def Ts (w : World) (b : Nat) : Prop := b < w.heap.size ∧ ∀ i, i < 16 → w.cell? ⟨b, i, none⟩ = some (.int .i64 ((mdTs.getD i 0 : Nat) : Int))
theorem Ts.below {w w' : World} {b : Nat} (h : Ts w b) (k : Below w.heap.size w w') : Ts w' b :=
  ⟨Nat.lt_of_lt_of_le h.1 k.size, fun i hi => (k.cell (p := ⟨b, i, none⟩) h.1).trans (h.2 i hi)⟩
def Sw (w : World) (b : Nat) (s : S4) : Prop :=
  b < w.heap.size ∧ w.cell? ⟨b, 0, none⟩ = some (.int .u32 s.a) ∧ w.cell? ⟨b, 1, none⟩ = some (.int .u32 s.b) ∧ w.cell? ⟨b, 2, none⟩ = some (.int .u32 s.c) ∧ w.cell? ⟨b, 3, none⟩ = some (.int .u32 s.d) ∧ w.frozen? ⟨b, 0, none⟩ = false ∧ w.frozen? ⟨b, 1, none⟩ = false ∧ w.frozen? ⟨b, 2, none⟩ = false ∧ w.frozen? ⟨b, 3, none⟩ = false
theorem Bs.belowB {B : Nat} {w w' : World} {b off n : Nat} {f : Nat → Nat} (h : Bs w b off n f) (hb : b < B) (k : Below B w w') : Bs w' b off n f :=
  ⟨Nat.lt_of_lt_of_le h.1 k.size, h.2.1, fun i hi => (k.cell (p := ⟨b, off + i, none⟩) hb).trans (h.2.2 i hi)⟩
theorem Ws.belowB {B : Nat} {w w' : World} {b off n : Nat} {f : Nat → Nat} (h : Ws w b off n f) (hb : b < B) (k : Below B w w') : Ws w' b off n f :=
  ⟨Nat.lt_of_lt_of_le h.1 k.size, h.2.1, fun i hi => (k.cell (p := ⟨b, off + i, none⟩) hb).trans (h.2.2 i hi)⟩
theorem Ts.belowB {B : Nat} {w w' : World} {b : Nat} (h : Ts w b) (hb : b < B) (k : Below B w w') : Ts w' b :=
  ⟨Nat.lt_of_lt_of_le h.1 k.size, fun i hi => (k.cell (p := ⟨b, i, none⟩) hb).trans (h.2 i hi)⟩
theorem Sw.below {w w' : World} {b : Nat} {s : S4} (h : Sw w b s) (k : Below w.heap.size w w') : Sw w' b s := by
  obtain ⟨h0, h1, h2, h3, h4, h5, h6, h7, h8⟩ := h
  exact ⟨Nat.lt_of_lt_of_le h0 k.size, (k.cell (p := ⟨b, 0, none⟩) h0).trans h1, (k.cell (p := ⟨b, 1, none⟩) h0).trans h2, (k.cell (p := ⟨b, 2, none⟩) h0).trans h3, (k.cell (p := ⟨b, 3, none⟩) h0).trans h4, (k.frozen (p := ⟨b, 0, none⟩) h0).trans h5, (k.frozen (p := ⟨b, 1, none⟩) h0).trans h6, (k.frozen (p := ⟨b, 2, none⟩) h0).trans h7, (k.frozen (p := ⟨b, 3, none⟩) h0).trans h8⟩
theorem Sw.set4 {w : World} {b : Nat} {s : S4} (h : Sw w b s) (r : S4) : Sw ((((w.setCell ⟨b, 0, none⟩ (.int .u32 r.a)).setCell ⟨b, 1, none⟩ (.int .u32 r.b)).setCell ⟨b, 2, none⟩ (.int .u32 r.c)).setCell ⟨b, 3, none⟩ (.int .u32 r.d)) b r := by
  obtain ⟨h0, h1, h2, h3, h4, h5, h6, h7, h8⟩ := h
  refine ⟨by simpa [World.setCell] using h0, ?_, ?_, ?_, ?_, by simpa [go_sem] using h5, by simpa [go_sem] using h6, by simpa [go_sem] using h7, by simpa [go_sem] using h8⟩ <;> simp [go_sem, h1, h2, h3, h4]
theorem T16 (w : World) (o : Obj) : Ts ((w.alloc (.cells #[.int .i64 7, .int .i64 12, .int .i64 17, .int .i64 22, .int .i64 5, .int .i64 9, .int .i64 14, .int .i64 20, .int .i64 4, .int .i64 11, .int .i64 16, .int .i64 23, .int .i64 6, .int .i64 10, .int .i64 15, .int .i64 21] 3)).alloc o) w.heap.size := by
  have h : Ts (w.alloc (.cells #[.int .i64 7, .int .i64 12, .int .i64 17, .int .i64 22, .int .i64 5, .int .i64 9, .int .i64 14, .int .i64 20, .int .i64 4, .int .i64 11, .int .i64 16, .int .i64 23, .int .i64 6, .int .i64 10, .int .i64 15, .int .i64 21] 3)) w.heap.size := by
    refine ⟨by simp, fun i hi => ?_⟩
    rw [World.cell?_alloc_mark]
    match i, hi with
    | 0, _ => rfl
    | 1, _ => rfl
    | 2, _ => rfl
    | 3, _ => rfl
    | 4, _ => rfl
    | 5, _ => rfl
    | 6, _ => rfl
    | 7, _ => rfl
    | 8, _ => rfl
    | 9, _ => rfl
    | 10, _ => rfl
    | 11, _ => rfl
    | 12, _ => rfl
    | 13, _ => rfl
    | 14, _ => rfl
    | 15, _ => rfl
    | _ + 16, h => exact absurd h (by omega)
  exact h.below (balloc (brefl _) o)
theorem S16 (w : World) (F : Nat → Nat) : Sw (w.alloc (.cells #[.int .u32 1732584193, .int .u32 4023233417, .int .u32 2562383102, .int .u32 271733878] 29)) w.heap.size (mdSt F 0) :=
  ⟨by simp, by simp [go_sem, mdSt], by simp [go_sem, mdSt], by simp [go_sem, mdSt], by simp [go_sem, mdSt], by simp [go_sem], by simp [go_sem], by simp [go_sem], by simp [go_sem]⟩
theorem S16' (w : World) (o : Obj) (F : Nat → Nat) : Sw ((w.alloc o).alloc (.cells #[.int .u32 1732584193, .int .u32 4023233417, .int .u32 2562383102, .int .u32 271733878] 29)) (w.heap.size + 1) (mdSt F 0) := by
  have h := S16 (w.alloc o) F
  rwa [show (w.alloc o).heap.size = w.heap.size + 1 from by simp] at h

set_option maxRecDepth 100000 in
set_option maxHeartbeats 4000000 in
theorem rMD5_c (a : Option Addr) (n cap : Nat) (f : Nat → Nat) (w : World) (hn : n ≤ 140737488351232) (hf : ∀ i, f i < 256)
    (HA : Hid (∀ ty, ∃ v' w', (Builtin.append_ #[22, 22] ty #[.slice none 0 0, .slice a n cap]).run Tryd.prog w = .ok v' w' ∧ Own w' w.heap.size v' (bl f n) ∧ Below w.heap.size w w' ∧ w.heap.size ≤ w'.heap.size)) :
    Calls Tryd.prog 10 #[.slice a n cap] w fun e w' => (∃ v, e = .returned v ∧ Own w' w.heap.size v (md5 f n)) ∧ Below w.heap.size w w' := by
  have PB := Lib.hid (pd_byte (low := true) (n := n) hf)
  go_enter Tryd.func10, Tryd.ntmps10
  go_wp2_with fail
  refine (rpad_low a n cap f _ hn HA).mono ?_
  rintro e w1 ⟨⟨v, rfl, own⟩, hb⟩
  have NL := pd_len true f n
  obtain ⟨gp, cp, rfl, g1, bs⟩ := own.bs (by omega) PB.out
  have HB := Lib.hid hb
  have BS := Lib.hid bs
  clear own hb bs HA PB
  rw [NL] at BS
  rw [NL]
  clear NL
  go_wp2_with fail
  refine (rmdTable_b _).mono ?_
  rintro e w2 ⟨rfl, ws, hb⟩
  obtain ⟨nb, eN⟩ : ∃ nb, n + 1 + zz n + 8 = 64 * nb := ⟨(n + 1 + zz n + 8) / 64, by have := (zz_at n).1; omega⟩
  have bN : nb ≤ 2199023255552 := by have := (zz_at n).2; omega
  have EM : Hid (md5 f n = ob true (mdSt (fun i => (pd true f n).getD i 0) nb).at 4) := Lib.hid (by unfold md5; rw [eN, show 64 * nb / 64 = nb from by omega])
  rw [eN] at BS
  rw [eN]
  clear eN
  generalize (fun i => (pd true f n).getD i 0) = F at *
  have WS := Lib.hid (balloc (balloc (brefl w2) (.cells #[.int .i64 7, .int .i64 12, .int .i64 17, .int .i64 22, .int .i64 5, .int .i64 9, .int .i64 14, .int .i64 20, .int .i64 4, .int .i64 11, .int .i64 16, .int .i64 23, .int .i64 6, .int .i64 10, .int .i64 15, .int .i64 21] 3)) (.cells #[.int .u32 1732584193, .int .u32 4023233417, .int .u32 2562383102, .int .u32 271733878] 29))
  have BS0 := Lib.hid ((BS.out.below hb).below WS.out)
  have KS0 := Lib.hid (ws.below WS.out)
  have TS0 := Lib.hid (T16 w2 (.cells #[.int .u32 1732584193, .int .u32 4023233417, .int .u32 2562383102, .int .u32 271733878] 29))
  have SW0 := Lib.hid (S16' w2 (.cells #[.int .i64 7, .int .i64 12, .int .i64 17, .int .i64 22, .int .i64 5, .int .i64 9, .int .i64 14, .int .i64 20, .int .i64 4, .int .i64 11, .int .i64 16, .int .i64 23, .int .i64 6, .int .i64 10, .int .i64 15, .int .i64 21] 3) F)
  have HB0 := Lib.hid (bstep (bstep HB.out hb) WS.out)
  have L1 : gp < w1.heap.size := BS.out.1
  have L2 : w1.heap.size < w2.heap.size := ws.1
  have L3 := HB.out.size
  clear BS HB WS ws hb hn hf
  go_wp2_with fail
  generalize (w2.alloc (.cells #[.int .i64 7, .int .i64 12, .int .i64 17, .int .i64 22, .int .i64 5, .int .i64 9, .int .i64 14, .int .i64 20, .int .i64 4, .int .i64 11, .int .i64 16, .int .i64 23, .int .i64 6, .int .i64 10, .int .i64 15, .int .i64 21] 3)).alloc (.cells #[.int .u32 1732584193, .int .u32 4023233417, .int .u32 2562383102, .int .u32 271733878] 29) = W0 at *
  go_loopw [7] (fun i wr => ∃ t : Nat, t ≤ nb ∧ i = .int .i64 (64 * (t : Int)) ∧ Sw wr (w2.heap.size + 1) (mdSt F t) ∧ Below (w2.heap.size + 1) W0 wr) (fun i _ => 64 * nb - (intOf i).toNat)
  case atStart => exact ⟨0, Nat.zero_le _, rfl, SW0.out, Below.refl _ _⟩
  case round =>
    obtain ⟨t, ht, rfl, sw, bw⟩ := hrel
    rename World => w5
    by_cases c : t < nb
    · have e0 : decide (64 * (t : Int) < 64 * (nb : Int)) = true := by rw [decide_eq_true_iff]; omega
      have e0' : decide ((t : Int) < (nb : Int)) = true := by rw [decide_eq_true_iff]; omega
      have SO := mdSt_ok F t
      have SW := Lib.hid sw
      have BW := Lib.hid bw
      have bw5 : Hid (∀ w6 : World, Below w5.heap.size w5 w6 → Below (w2.heap.size + 1) W0 w6) := Lib.hid fun w6 k => bw.trans (k.mono (by have := sw.1; omega))
      have BS := Lib.hid (BS0.out.belowB (by omega) bw)
      have KS := Lib.hid (KS0.out.belowB (by omega) bw)
      have TS := Lib.hid (TS0.out.belowB (by omega) bw)
      have RS : Hid (mdSt F (t + 1) = mdAdd (mdSt F t) (mdRun (fun g => wrd true F (64 * t + 4 * g)) (mdSt F t) 64)) := rfl
      have MO := Lib.hid (fun k => mdRun_ok (M := fun g => wrd true F (64 * t + 4 * g)) SO k)
      have RR : Hid (∀ k, mdRun (fun g => wrd true F (64 * t + 4 * g)) (mdSt F t) (k + 1) = mdOne (fun g => wrd true F (64 * t + 4 * g)) k (mdRun (fun g => wrd true F (64 * t + 4 * g)) (mdSt F t) k)) := fun k => rfl
      have R0 : Hid (mdRun (fun g => wrd true F (64 * t + 4 * g)) (mdSt F t) 0 = mdSt F t) := rfl
      generalize mdRun (fun g => wrd true F (64 * t + 4 * g)) (mdSt F t) = Rn at *
      obtain ⟨s1, s2, s3, s4, s5, s6, s7, s8, s9⟩ := sw
      clear bw
      go_wp2_with fail
      clear e0 e0' s1 s2 s3 s4 s5 s6 s7 s8 s9
      go_loopw [8, 9, 10, 11, 12] (fun a b c d i w6 => ∃ k q : Nat, k ≤ 64 ∧ i = .int .i64 k ∧ a = .int .u32 (Rn k).a ∧ b = .int .u32 (Rn k).b ∧ c = .int .u32 (Rn k).c ∧ d = .int .u32 (Rn k).d ∧ w6 = w5.drewN q) (fun _ _ _ _ i _ => 64 - (intOf i).toNat)
      case atStart => exact ⟨0, 0, by omega, rfl, by rw [R0.out], by rw [R0.out], by rw [R0.out], by rw [R0.out], rfl⟩
      case round =>
        obtain ⟨k, q, hk, rfl, rfl, rfl, rfl, rfl, hw6⟩ := hrel
        rename World => w6
        have D6 : Below w5.heap.size w5 w6 := by rw [hw6]; exact bdrew (brefl w5) q
        have HW6 := Lib.hid hw6
        clear hw6
        have OK := MO.out k
        have RK := Lib.hid (RR.out k)
        have NX : Hid (Rn (k + 1) = ⟨(Rn k).d, ((Rn k).b + rol (mdf (fun g => wrd true F (64 * t + 4 * g)) k (Rn k)) (mdT k)) % 4294967296, (Rn k).b, (Rn k).c⟩) := RK
        clear RK
        by_cases c4 : k < 64
        · have e0 : decide ((k : Int) < 64) = true := by rw [decide_eq_true_iff]; omega
          have EF : Hid (mdf (fun g => wrd true F (64 * t + 4 * g)) k (Rn k) = (mF k (Rn k).b (Rn k).c (Rn k).d + (Rn k).a + mdK k + wrd true F (64 * t + 4 * mG k)) % 4294967296) := rfl
          generalize mdf (fun g => wrd true F (64 * t + 4 * g)) k (Rn k) = fs at *
          have ST := Lib.hid (fun w => rmdStep_c k (Rn k).b (Rn k).c (Rn k).d w (by omega) OK.2.1 OK.2.2.1 OK.2.2.2)
          have GL := mG_lt k
          have FL := mF_lt k OK.2.1 OK.2.2.1 OK.2.2.2
          have WL := wrd_lt true F BS.out.2.1 (64 * t + 4 * mG k)
          have KL := mdK_lt k c4
          have TL := mdT_bd k c4
          have WC : Hid (∀ q, Calls Tryd.prog 24 #[.slice (some ⟨gp, 0, none⟩) (64 * nb) cp, .int .i64 (64 * (t : Int) + 4 * (mG k : Int)), .bool true] (w6.drewN q) fun e w' => e = .returned (.int .u32 (wrd true F (64 * t + 4 * mG k))) ∧ w' = w6.drewN q) := Lib.hid fun q => by
            have h := rword_low gp 0 (64 * nb) cp (64 * t + 4 * mG k) F (w6.drewN q) ((BS.out.below D6).below (bdrew (brefl w6) q)) (by omega) (by omega)
            rwa [show ((64 * t + 4 * mG k : Nat) : Int) = 64 * (t : Int) + 4 * (mG k : Int) from by omega] at h
          have FF : fs < 4294967296 := by rw [EF.out]; exact Nat.mod_lt _ (by omega)
          have LC := Lib.hid (fun w => rleft_c fs (mdT k) w FF TL.1 TL.2)
          have RL := (rol_or fs (mdT k) FF TL.1 TL.2).2
          have EI : (fs : Int) = ((mF k (Rn k).b (Rn k).c (Rn k).d : Int) + (Rn k).a + mdK k + wrd true F (64 * t + 4 * mG k)) % 4294967296 := by rw [EF.out]; simp
          rw [EI] at LC
          clear EI EF FF
          generalize rol fs (mdT k) = rl at *
          have KC : w6.cell? ⟨w1.heap.size, k, none⟩ = some (.int .u32 (mdK k)) := by simpa using (KS.out.below D6).2.2 k c4
          have TC : w6.cell? ⟨w2.heap.size, 4 * (k / 16) + k % 4, none⟩ = some (.int .i64 (mdT k)) := (TS.out.below D6).2 (4 * (k / 16) + k % 4) (by omega)
          generalize mF k (Rn k).b (Rn k).c (Rn k).d = ff at *
          generalize mG k = gg at *
          generalize wrd true F (64 * t + 4 * gg) = ww at *
          generalize mdK k = kk at *
          generalize mdT k = tt at *
          obtain ⟨o1, o2, o3, o4⟩ := OK
          generalize (Rn k).a = ra at *
          generalize (Rn k).b = rb at *
          generalize (Rn k).c = rc at *
          generalize (Rn k).d = rd at *
          have k0 : (0 : Int) ≤ (k : Int) := by omega
          have k1 : (k : Int) < 64 := by omega
          have t0 : (t : Int) < (nb : Int) := by omega
          have nb0 : (nb : Int) ≤ 2199023255552 := by omega
          have g0 : (gg : Int) < 16 := by omega
          have d0 : (k : Int).tdiv 16 = ((k / 16 : Nat) : Int) := by rw [Int.tdiv_eq_ediv_of_nonneg k0]; omega
          have d1 : (k : Int).tmod 4 = ((k % 4 : Nat) : Int) := by rw [Int.tmod_eq_emod_of_nonneg k0]; omega
          have d2 : k / 16 ≤ 3 := by omega
          have d3 : k % 4 ≤ 3 := by omega
          clear D6
          go_wp2_with fail
          refine (ST.out _).mono ?_
          rintro e w' ⟨rfl, rfl⟩
          go_wp2_with fail
          go_quiet ((go_at_call 24; with_reducible exact Calls.quiet_of_same (WC.out _)))
          go_wp2_with fail
          refine (LC.out _).mono ?_
          rintro e w'' ⟨rfl, rfl⟩
          go_wp2_with fail
          go_roundw
          case rel => exact ⟨k + 1, q + nq, by omega, by go_num, by rw [NX.out], by rw [NX.out]; simp, by rw [NX.out], by rw [NX.out], by rw [HW6.out]; simp⟩
          case measure => simp [intOf]; omega
        · have e0 : decide ((k : Int) < 64) = false := by rw [decide_eq_false_iff_not]; omega
          obtain rfl : k = 64 := by omega
          have S6 := Lib.hid (SW.out.below D6)
          have B6 := Lib.hid (bw5.out _ D6)
          have RT : Hid (mdSt F (t + 1) = ⟨((mdSt F t).a + (Rn 64).a) % 4294967296, ((mdSt F t).b + (Rn 64).b) % 4294967296, ((mdSt F t).c + (Rn 64).c) % 4294967296, ((mdSt F t).d + (Rn 64).d) % 4294967296⟩) := RS
          clear NX RS MO RR R0 D6 HW6
          obtain ⟨o1, o2, o3, o4⟩ := OK
          obtain ⟨p1, p2, p3, p4⟩ := SO
          generalize (Rn 64).a = ra at *
          generalize (Rn 64).b = rb at *
          generalize (Rn 64).c = rc at *
          generalize (Rn 64).d = rd at *
          obtain ⟨s1, s2, s3, s4, s5, s6, s7, s8, s9⟩ := S6.out
          generalize (mdSt F t).a = sa at *
          generalize (mdSt F t).b = sb at *
          generalize (mdSt F t).c = sc at *
          generalize (mdSt F t).d = sd at *
          have t0 : (t : Int) < (nb : Int) := by omega
          have nb0 : (nb : Int) ≤ 2199023255552 := by omega
          go_wp2_with fail
          rw [show ((sa : Int) + (ra : Int)) % 4294967296 = (((sa + ra) % 4294967296 : Nat) : Int) from by omega, show ((sb : Int) + (rb : Int)) % 4294967296 = (((sb + rb) % 4294967296 : Nat) : Int) from by omega, show ((sc : Int) + (rc : Int)) % 4294967296 = (((sc + rc) % 4294967296 : Nat) : Int) from by omega, show ((sd : Int) + (rd : Int)) % 4294967296 = (((sd + rd) % 4294967296 : Nat) : Int) from by omega]
          go_roundw
          case rel => exact ⟨t + 1, by omega, by congr 1, by rw [RT.out]; exact S6.out.set4 ⟨_, _, _, _⟩, (((B6.out.setCell (Nat.le_refl _) _).setCell (Nat.le_refl _) _).setCell (Nat.le_refl _) _).setCell (Nat.le_refl _) _⟩
          case measure => simp [intOf]; omega
    · have e0 : decide (64 * (t : Int) < 64 * (nb : Int)) = false := by rw [decide_eq_false_iff_not]; omega
      have e0' : decide ((t : Int) < (nb : Int)) = false := by rw [decide_eq_false_iff_not]; omega
      obtain rfl : t = nb := by omega
      have SO := mdSt_ok F t
      have W4 : Ws w5 (w2.heap.size + 1) 0 4 (mdSt F t).at := by
        obtain ⟨s1, s2, s3, s4, s5, _⟩ := sw
        refine ⟨s1, fun i hi => ?_, fun i hi => ?_⟩
        · match i, hi with
          | 0, _ => exact SO.1
          | 1, _ => exact SO.2.1
          | 2, _ => exact SO.2.2.1
          | 3, _ => exact SO.2.2.2
          | _ + 4, h => exact absurd h (by omega)
        · match i, hi with
          | 0, _ => exact s2
          | 1, _ => exact s3
          | 2, _ => exact s4
          | 3, _ => exact s5
          | _ + 4, h => exact absurd h (by omega)
      have HW4 := Lib.hid W4
      have BZ := Lib.hid (HB0.out.trans (bw.mono (by omega)))
      clear W4 sw bw
      go_wp2_with fail
      refine (rbytes_low _ _ _ _ _ _ HW4.out (by omega)).mono ?_
      rintro e w7 ⟨⟨v, rfl, own⟩, hb⟩
      have OW := Lib.hid (own.le BZ.out.size)
      have BE := Lib.hid (bstep BZ.out hb)
      clear own hb
      go_wp2_with fail
      go_ret
      exact ⟨⟨_, rfl, by rw [EM.out]; exact OW.out⟩, BE.out⟩
end Go.Proofs.YtenlbjnoiamfiaaDoor.Hs
