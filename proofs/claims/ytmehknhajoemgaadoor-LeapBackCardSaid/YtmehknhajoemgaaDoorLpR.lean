/-
  The contract of leap.Format: the list that says a table.
  Conditions: the tables read as the program's text lays them.
-/
import Derived.Test.YtmehknhajoemgaaDoorLpQ
namespace Go.Proofs.YtmehknhajoemgaaDoor.Wd
open Go.ChangeShapes Go.WideShapes Go.ChangeAt Go.RowKit Go.Joins By
set_option linter.unusedVariables false
set_option linter.unusedSimpArgs false

def mkE : ByteArray := ⟨#[35, 64, 32]⟩
def mkH : ByteArray := ⟨#[35, 104, 32]⟩
def bSp : ByteArray := ⟨#[32]⟩
def bNl : ByteArray := ⟨#[10]⟩
/-- what Format writes, up to change k. -/
def fmF (a o : Nat → Int) (e : Int) : Nat → ByteArray
  | 0 => mkE ++ num (e / 1048576) ++ bNl
  | k + 1 => fmF a o e k ++ (num (a k / 1048576) ++ bSp ++ num (o k) ++ bNl)
def fmt (n : Nat) (a o : Nat → Int) (e : Int) : ByteArray := fmF a o e n ++ (mkH ++ hashT n a o e ++ bNl)
theorem fmF_le {n : Nat} {a o : Nat → Int} {e : Int} (h : Lp.Tb n a o e) : ∀ k, k ≤ n → (fmF a o e k).size ≤ 22 * k + 14
  | 0, _ => by
    have := num_le (n := e / 1048576) (by have := h.2.2.1; omega)
    rw [fmF, ByteArray.size_append, ByteArray.size_append, show mkE.size = 3 from rfl, show bNl.size = 1 from rfl]
    omega
  | k + 1, hk => by
    have h1 := fmF_le h k (by omega)
    have h2 := num_le (n := a k / 1048576) (by have := h.1.le k (by omega); omega)
    have h3 := num_le (n := o k) (by have := h.1.ob k (by omega); omega)
    rw [fmF, ByteArray.size_append, ByteArray.size_append, ByteArray.size_append, ByteArray.size_append, show bSp.size = 1 from rfl, show bNl.size = 1 from rfl]
    omega
theorem hashT_size (n : Nat) (a o : Nat → Int) (e : Int) : (hashT n a o e).size = 32 := by
  have : ∀ l : List Nat, (Hs.bs8 l).size = l.length := fun l => by simp [Hs.bs8, ByteArray.size]
  rw [hashT, this, Hs.hxL_len]
theorem fmt_le {n : Nat} {a o : Nat → Int} {e : Int} (h : Lp.Tb n a o e) : (fmt n a o e).size ≤ 200000 := by
  have h1 := fmF_le h n (Nat.le_refl _)
  have h2 := h.1.n_le
  rw [fmt, ByteArray.size_append, ByteArray.size_append, ByteArray.size_append, hashT_size, show mkH.size = 3 from rfl, show bNl.size = 1 from rfl]
  omega

theorem Format_no {w : World} {v : Value} {n : Nat} {a o : Nat → Int} {e : Int} (A : Lp.Cs w v n a o) (h : ¬ Lp.Tb n a o e) :
    Calls Tryd.prog 5 #[Lp.lv v e] w fun x w' => x = .returned (.tuple #[.string ⟨#[]⟩, .int .i64 3]) ∧ Below w.heap.size w w' := by
  have C := Lib.hid (fun w (A : Lp.Cs w v n a o) => Lp.Check_c (e := e) A)
  have A0 := Lib.hid A
  have H := Lib.hid h
  clear A h
  unfold Lp.lv at *
  go_enter Tryd.func5, Tryd.ntmps5
  go_wp2_with fail
  refine (C.out _ (A0.out.below (balloc (brefl w) _))).mono ?_
  rintro x w1 ⟨hc, hb⟩
  obtain ⟨_, rfl⟩ := hc.resolve_left (fun g => H.out g.1)
  have HB := Lib.hid (bstep (balloc (brefl w) _) hb)
  clear hb hc
  go_wp2_with fail
  go_ret2
  exact ⟨rfl, HB.out⟩

set_option maxRecDepth 100000 in
set_option maxHeartbeats 8000000 in
theorem Format_ok {w : World} {v : Value} {n : Nat} {a o : Nat → Int} {e : Int} (A : Lp.Cs w v n a o) (h : Lp.Tb n a o e) (G : Hs.Gl w) (T : Cv.Tab w) :
    Calls Tryd.prog 5 #[Lp.lv v e] w fun x w' => x = .returned (.tuple #[.string (fmt n a o e), .int .i64 0]) ∧ Below w.heap.size w w' := by
  have HT := Lib.hid h
  have GG := Lib.hid G
  have TT := Lib.hid T
  have nle := h.1.n_le
  have pos := h.1.pos
  have e0 : 0 ≤ e := h.2.1
  have e1 : e ≤ 10485759998951424 := h.2.2.1
  have CK := Lib.hid (fun w (A : Lp.Cs w v n a o) => Lp.Check_c (e := e) A)
  have HO := Lib.hid (fun w (A : Lp.Cs w v n a o) G T => hashOf_c A h G T)
  have A0 := Lib.hid A
  obtain ⟨ad, cap, rfl, a1, a2, a3, a4⟩ := A
  obtain ⟨b, off, rfl, hbl, hK⟩ := a4 (by omega)
  have HK := Lib.hid hK
  have FE : Hid (fmt n a o e = fmF a o e n ++ (mkH ++ hashT n a o e ++ bNl)) := Lib.hid rfl
  have hz := hashT_size n a o e
  generalize hashT n a o e = HASH at *
  generalize fmt n a o e = FMT at *
  clear h G T a3 a4 hK
  unfold Lp.lv at *
  go_enter Tryd.func5, Tryd.ntmps5
  go_wp2_with fail
  refine (CK.out _ (A0.out.below (balloc (brefl w) _))).mono ?_
  rintro x w0 ⟨hc, hb⟩
  obtain ⟨_, rfl⟩ := hc.resolve_right (fun g => g.1 HT.out)
  have g0 := hb.cell (p := ⟨w.heap.size, 0, none⟩) (by simp)
  have g1 := hb.cell (p := ⟨w.heap.size, 1, none⟩) (by simp)
  simp [go_sem] at g0 g1
  have z0 : w.heap.size < w0.heap.size := Nat.lt_of_lt_of_le (by simp) hb.size
  have B0 := Lib.hid (bstep (balloc (brefl w) _) hb)
  have G0 := Lib.hid g0
  have G1 := Lib.hid g1
  clear hb hc CK
  go_wp2_with fail
  clear g0 g1
  have Q0 := Lib.hid (Qb.new w0)
  have B1 := Lib.hid (balloc B0.out (.cells #[.pointer none, .slice none 0 0] 48))
  have WS : Hid (∀ wr l s, Qb w0 wr l → l.length + s.size ≤ 140737488355328 → Calls Tryd.prog 13 #[.pointer (some ⟨w0.heap.size, 0, none⟩), .string s] wr fun e w' => e = .returned (.tuple #[.int .i64 s.size, .nilIface]) ∧ Qb w0 w' (l ++ bn s) ∧ Lib.OthersKept 5 (some w0.heap.size) wr w') := Lib.hid fun wr l s q hn => q.writeS s hn
  have ST : Hid (∀ wr s, Qb w0 wr (bn s) → Calls Tryd.prog 17 #[.pointer (some ⟨w0.heap.size, 0, none⟩)] wr fun e w' => e = .returned (.string s) ∧ Below w0.heap.size w0 w') := Lib.hid fun wr s q => by
    have := q.string (bn_byte s)
    rw [bs8_bn] at this
    exact this
  have QC : Hid (∀ wr l, Qb w0 wr l → Below w0.heap.size w0 wr ∧ w0.heap.size < wr.heap.size) := Lib.hid fun wr l q => by
    obtain ⟨c, v, F, hv, own, hz, hb⟩ := q
    exact ⟨hb, F.lt⟩
  generalize w0.alloc (.cells #[.pointer none, .slice none 0 0] 48) = w1 at *
  refine (inSeconds_c e w1 (TT.out.below B1.out) e0 (by omega)).mono ?_
  rintro x w2 ⟨rfl, hb⟩
  have Q2 := Lib.hid (Q0.out.below hb)
  clear hb B1 Q0
  have SZ : Hid (∀ k, k ≤ n → (fmF a o e k).size ≤ 22 * k + 14) := Lib.hid fun k hk => fmF_le HT.out k hk
  have nz := num_le (n := e / 1048576) (by omega)
  have S0 : Hid (fmF a o e 0 = mkE ++ num (e / 1048576) ++ bNl) := Lib.hid rfl
  generalize num (e / 1048576) = s0 at *
  unfold mkE bNl at S0
  go_wp2_with fail
  refine (WS.out _ _ _ Q2.out (by simp [ByteArray.size_append]; show 3 + s0.size + 1 ≤ _; omega)).mono ?_
  rintro x w3 ⟨rfl, q3, _⟩
  rw [List.nil_append, ← S0.out] at q3
  have Q3 := Lib.hid q3
  have c0 := ((QC.out _ _ q3).1.cell (p := ⟨w.heap.size, 0, none⟩) z0).trans G0.out
  clear q3 Q2
  go_wp2_with fail
  clear c0
  go_loopw [22] (fun iv wr => ∃ k : Nat, k ≤ n ∧ iv = .int .i64 k ∧ Qb w0 wr (bn (fmF a o e k))) (fun iv _ => n - (intOf iv).toNat)
  case atStart => exact ⟨0, Nat.zero_le _, rfl, Q3.out⟩
  case round =>
    obtain ⟨k, hk, rfl, hq⟩ := hrel
    rename World => wr
    have QQ := Lib.hid hq
    obtain ⟨q1, zr⟩ := QC.out _ _ hq
    have BW := Lib.hid (B0.out.trans (q1.mono B0.out.size))
    have c0 := (q1.cell (p := ⟨w.heap.size, 0, none⟩) z0).trans G0.out
    have c1 := (q1.cell (p := ⟨w.heap.size, 1, none⟩) z0).trans G1.out
    clear hq q1
    by_cases c : k < n
    · have f1 : decide ((k : Int) < (n : Int)) = true := by rw [decide_eq_true_iff]; omega
      obtain ⟨x1, x2⟩ := HK.out k c
      rw [← BW.out.cell (p := ⟨b, _, none⟩) hbl] at x1 x2
      have am := (HT.out.1.mo k c).1
      have al := HT.out.1.le k c
      have ob := HT.out.1.ob k c
      have I1 := Lib.hid (fun w' (q : Below wr.heap.size wr w') => inSeconds_c (a k) w' (TT.out.below (BW.out.trans (q.mono BW.out.size))) am (by omega))
      have I2 := Lib.hid (fun w' (q : Below wr.heap.size wr w') => Itoa_c (o k) w' (TT.out.below (BW.out.trans (q.mono BW.out.size))) ob.1 (by omega))
      have n1 := num_le (n := a k / 1048576) (by omega)
      have n2 := num_le (n := o k) (by omega)
      have sl := SZ.out k hk
      have SE : Hid (fmF a o e (k + 1) = fmF a o e k ++ (num (a k / 1048576) ++ bSp ++ num (o k) ++ bNl)) := Lib.hid rfl
      unfold bSp bNl at SE
      generalize num (a k / 1048576) = sa at *
      generalize num (o k) = so at *
      generalize fmF a o e k = sk at *
      generalize a k = ak at *
      generalize o k = ok at *
      go_wp2_with fail
      have WB := Lib.hid (balloc (brefl wr) (.cells #[.int .i64 ak, .int .i64 ok] 55))
      have hh : Hid ((wr.alloc (.cells #[.int .i64 ak, .int .i64 ok] 55)).heap[wr.heap.size]? = some (.cells #[.int .i64 ak, .int .i64 ok] 55 (0, 0))) := Lib.hid (heap_alloc_new wr _)
      have zc : wr.heap.size < (wr.alloc (.cells #[.int .i64 ak, .int .i64 ok] 55)).heap.size := by simp
      generalize wr.alloc (.cells #[.int .i64 ak, .int .i64 ok] 55) = wc at *
      have Q4 := Lib.hid (QQ.out.below WB.out)
      have CE : Hid (∀ w' : World, w'.heap[wr.heap.size]? = some (.cells #[.int .i64 ak, .int .i64 ok] 55 (0, 0)) → w'.cell? ⟨wr.heap.size, 0, none⟩ = some (.int .i64 ak) ∧ w'.cell? ⟨wr.heap.size, 1, none⟩ = some (.int .i64 ok)) := Lib.hid fun w' q => by simp [World.cell?, q]
      have KP : Hid (∀ w' : World, Below wc.heap.size wc w' → w'.cell? ⟨wr.heap.size, 0, none⟩ = some (.int .i64 ak) ∧ w'.cell? ⟨wr.heap.size, 1, none⟩ = some (.int .i64 ok)) := Lib.hid fun w' q => CE.out w' ((q.block _ zc).trans hh.out)
      have KO : Hid (∀ w' w'' : World, Below wc.heap.size wc w' → Lib.OthersKept 5 (some w0.heap.size) w' w'' → w''.cell? ⟨wr.heap.size, 0, none⟩ = some (.int .i64 ak) ∧ w''.cell? ⟨wr.heap.size, 1, none⟩ = some (.int .i64 ok)) := Lib.hid fun w' w'' q r => CE.out w'' (r _ _ ((q.block _ zc).trans hh.out) (by simp; omega) (fun c fz e => by cases e))
      have J1 := Lib.hid (fun (w' : World) (q : Below wc.heap.size wc w') => I1.out w' (WB.out.trans (q.mono WB.out.size)))
      have J2 := Lib.hid (fun (w' : World) (q : Below wc.heap.size wc w') => I2.out w' (WB.out.trans (q.mono WB.out.size)))
      have SS : (sa ++ ⟨#[32]⟩ ++ so ++ ⟨#[10]⟩).size = sa.size + 1 + so.size + 1 := by
        rw [ByteArray.size_append, ByteArray.size_append, ByteArray.size_append]
        rfl
      have J3 := Lib.hid (fun (w' : World) (q : Below wc.heap.size wc w') => WS.out w' (bn sk) (sa ++ ⟨#[32]⟩ ++ so ++ ⟨#[10]⟩) (Q4.out.below q) (by rw [bn_len, SS]; omega))
      clear SS
      have m1 : ¬ (9223372036854775807 < sa.size + 1) := by omega
      have m2 : ¬ (9223372036854775807 < sa.size + 1 + so.size) := by omega
      have m3 : ¬ (9223372036854775807 < sa.size + 1 + so.size + 1) := by omega
      have hb0 : Below wc.heap.size wc wc.drew := (brefl wc).drew
      go_region_held3 (fun w' => w'.cell? ⟨wr.heap.size, 0, none⟩ = some (.int .i64 ak) ∧ w'.cell? ⟨wr.heap.size, 1, none⟩ = some (.int .i64 ok))
        (first | exact KP.out _ (by assumption) | exact KO.out _ _ (by assumption) (by assumption))
        (first | (go_at_call 14; (with_reducible refine (J1.out _ (by assumption)).mono ?_); rintro e w' ⟨rfl, hb⟩; replace hb := Cv.bstep (w := wc) (by assumption) hb) | (go_at_call 15; (with_reducible refine (J2.out _ (by assumption)).mono ?_); rintro e w' ⟨rfl, hb⟩; replace hb := Cv.bstep (w := wc) (by assumption) hb) | (go_at_call 13; (with_reducible refine (J3.out _ (by assumption)).mono ?_); rintro e w' ⟨rfl, hq, ho⟩))
      all_goals
        rename Qb w0 _ _ => hq
        have QZ := Lib.hid hq
        clear hq
        rw [show bn sk ++ bn (sa ++ ⟨#[32]⟩ ++ so ++ ⟨#[10]⟩) = bn (fmF a o e (k + 1)) from by rw [SE.out, bn_app sk]] at QZ
        go_wp2_with fail
        go_roundw
      case rel => exact ⟨k + 1, by omega, by go_num, QZ.out⟩
      case measure => simp [intOf]; omega
    · have f1 : decide ((k : Int) < (n : Int)) = false := by rw [decide_eq_false_iff_not]; omega
      obtain rfl : n = k := by omega
      have sl := SZ.out n (Nat.le_refl _)
      go_wp2_with fail
      refine (HO.out _ (A0.out.below BW.out) (GG.out.below BW.out) (TT.out.below BW.out)).mono ?_
      rintro x w5 ⟨rfl, hb⟩
      have Q5 := Lib.hid (QQ.out.below hb)
      clear hb HO
      unfold mkH bNl at FE
      generalize fmF a o e n = sk at *
      go_wp2_with fail
      refine (WS.out _ _ _ Q5.out (by rw [bn_len, ByteArray.size_append, ByteArray.size_append, hz]; show sk.size + (3 + 32 + 1) ≤ _; omega)).mono ?_
      rintro x w6 ⟨rfl, q6, _⟩
      rw [← bn_app sk, ← FE.out] at q6
      have Q6 := Lib.hid q6
      clear q6 Q5
      go_wp2_with fail
      refine (ST.out _ _ Q6.out).mono ?_
      rintro x w7 ⟨rfl, hb⟩
      have B7 := Lib.hid (B0.out.trans (hb.mono B0.out.size))
      clear hb
      go_wp2_with fail
      go_ret2
      exact ⟨rfl, B7.out⟩
end Go.Proofs.YtmehknhajoemgaaDoor.Wd
