/-
  The contract of leap.hashOf: what a list's hash is of, and the hash.
  Conditions: the tables read as the program's text lays them.
-/
import Derived.Test.YtmehknhajoemgaaDoorLpP
import Derived.Test.YtmehknhajoemgaaDoorLpJ
import Derived.Test.YtmehknhajoemgaaDoorHsX
import Derived.Lib.ConvBytes
import Derived.Deep.RegionHeld3
namespace Go.Proofs.YtmehknhajoemgaaDoor.Wd
open Go.ChangeShapes Go.WideShapes Go.ChangeAt Go.RowKit Go.Joins By
set_option linter.unusedVariables false
set_option linter.unusedSimpArgs false

theorem dd_len : ∀ k n, n < 10 ^ (k + 1) → (Lib.decDigits n).length ≤ k + 1
  | 0, n, h => by rw [Cv.dec1 (by simpa using h)]; simp
  | k + 1, n, h => by
    by_cases c : n < 10
    · rw [Cv.dec1 c]; simp
    · rw [Cv.decS c, List.length_append]
      have := dd_len k (n / 10) (by rw [Nat.pow_succ] at h; omega)
      simp
      omega
theorem num_le {n : Int} (h : n < 10000000000) : (num n).size ≤ 10 := by
  have := dd_len 9 n.toNat (by simpa using (show n.toNat < 10000000000 by omega))
  exact this
/-- the texts that a list's hash is of, up to change k. -/
def sayF (a o : Nat → Int) (e : Int) : Nat → ByteArray
  | 0 => num (e / 1048576)
  | k + 1 => sayF a o e k ++ (num (a k / 1048576) ++ num (o k))
theorem sayF_le {n : Nat} {a o : Nat → Int} {e : Int} (h : Lp.Tb n a o e) : ∀ k, k ≤ n → (sayF a o e k).size ≤ 20 * k + 10
  | 0, _ => num_le (by have := h.2.2.1; omega)
  | k + 1, hk => by
    have h1 := sayF_le h k (by omega)
    have h2 := num_le (n := a k / 1048576) (by have := h.1.le k (by omega); omega)
    have h3 := num_le (n := o k) (by have := h.1.ob k (by omega); omega)
    rw [sayF, ByteArray.size_append, ByteArray.size_append]
    omega
/-- a list's hash. -/
def hashT (n : Nat) (a o : Nat → Int) (e : Int) : ByteArray := Hs.bs8 (Hs.hxL (fun i => (Hs.md5 (gn (sayF a o e n)) (sayF a o e n).size).getD i 0) 16)

theorem conv_str (w : World) (s : ByteArray) : (convert 9 46 (.string s)).run Tryd.prog w = .ok (.slice (some ⟨w.heap.size, 0, none⟩) s.size (grownCap w s.size 0 5)) (Lib.bytesWorld w 5 s) :=
  Lib.run_convert_string_bytes w 9 46 5 s Tryd.underlying9 Tryd.underlying46 Tryd.underlying5
theorem conv_below (w : World) (s : ByteArray) : Below w.heap.size w (Lib.bytesWorld w 5 s) :=
  ⟨rfl, rfl, rfl, by rw [Lib.bytesWorld_size]; omega, fun j hj => Lib.bytesWorld_at_old w _ s j hj⟩
theorem conv_bytes (w : World) (s : ByteArray) : Hs.Bs (Lib.bytesWorld w 5 s) w.heap.size 0 s.size (gn s) :=
  ⟨by rw [Lib.bytesWorld_size]; omega, fun i => (s.data.toList.getD i 0).toNat_lt, fun i hi => by rw [Nat.zero_add]; exact Lib.bytesWorld_cell w _ s i hi⟩

set_option maxRecDepth 100000 in
set_option maxHeartbeats 8000000 in
theorem hashOf_c {w : World} {v : Value} {n : Nat} {a o : Nat → Int} {e : Int} (A : Lp.Cs w v n a o) (h : Lp.Tb n a o e) (G : Hs.Gl w) (T : Cv.Tab w) :
    Calls Tryd.prog 16 #[Lp.lv v e] w fun x w' => x = .returned (.string (hashT n a o e)) ∧ Below w.heap.size w w' := by
  have HT := Lib.hid h
  have GG := Lib.hid G
  have TT := Lib.hid T
  have nle := h.1.n_le
  have pos := h.1.pos
  have e0 : 0 ≤ e := h.2.1
  have e1 : e ≤ 10485759998951424 := h.2.2.1
  obtain ⟨ad, cap, rfl, a1, a2, a3, a4⟩ := A
  obtain ⟨b, off, rfl, hbl, hK⟩ := a4 (by omega)
  have HK := Lib.hid hK
  have HTE : Hid (hashT n a o e = Hs.bs8 (Hs.hxL (fun i => (Hs.md5 (gn (sayF a o e n)) (sayF a o e n).size).getD i 0) 16)) := Lib.hid rfl
  generalize hashT n a o e = HASH at *
  clear h G T a3 a4 hK
  unfold Lp.lv
  go_enter Tryd.func16, Tryd.ntmps16
  go_wp2_with fail
  have B0 := Lib.hid (balloc (brefl w) (.cells #[.slice (some ⟨b, off, none⟩) n cap, .int .i64 e] 25))
  have g0 : Hid ((w.alloc (.cells #[.slice (some ⟨b, off, none⟩) n cap, .int .i64 e] 25)).cell? ⟨w.heap.size, 0, none⟩ = some (.slice (some ⟨b, off, none⟩) n cap)) := Lib.hid (by
    simp only [World.cell?, heap_alloc_new]
    rfl)
  have Z0 : Hid ((w.alloc (.cells #[.slice (some ⟨b, off, none⟩) n cap, .int .i64 e] 25)).heap.size = w.heap.size + 1) := Lib.hid (by simp)
  generalize w.alloc (.cells #[.slice (some ⟨b, off, none⟩) n cap, .int .i64 e] 25) = w0 at *
  have Q0 := Lib.hid (Qb.new w0)
  have B1 := Lib.hid (balloc B0.out (.cells #[.pointer none, .slice none 0 0] 48))
  have WS : Hid (∀ wr l s, Qb w0 wr l → l.length + s.size ≤ 140737488355328 → Calls Tryd.prog 13 #[.pointer (some ⟨w.heap.size + 1, 0, none⟩), .string s] wr fun e w' => e = .returned (.tuple #[.int .i64 s.size, .nilIface]) ∧ Qb w0 w' (l ++ bn s) ∧ Lib.OthersKept 5 (some (w.heap.size + 1)) wr w') := Lib.hid fun wr l s q hn => by
    have := q.writeS s hn
    rw [Z0.out] at this
    exact this
  have ST : Hid (∀ wr s, Qb w0 wr (bn s) → Calls Tryd.prog 17 #[.pointer (some ⟨w.heap.size + 1, 0, none⟩)] wr fun e w' => e = .returned (.string s) ∧ Below w0.heap.size w0 w') := Lib.hid fun wr s q => by
    have := q.string (bn_byte s)
    rw [bs8_bn] at this
    rw [show (⟨w.heap.size + 1, 0, none⟩ : Addr) = ⟨w0.heap.size, 0, none⟩ from by rw [Z0.out]]
    exact this
  have z0 : w.heap.size < w0.heap.size := by rw [Z0.out]; omega
  generalize w0.alloc (.cells #[.pointer none, .slice none 0 0] 48) = w1 at *
  refine (inSeconds_c e w1 (TT.out.below B1.out) e0 (by omega)).mono ?_
  rintro x w2 ⟨rfl, hb⟩
  have Q2 := Lib.hid (Q0.out.below hb)
  clear hb B1 Q0
  have SZ : Hid (∀ k, k ≤ n → (sayF a o e k).size ≤ 20 * k + 10) := Lib.hid fun k hk => sayF_le HT.out k hk
  have nz := num_le (n := e / 1048576) (by omega)
  have S0 : Hid (sayF a o e 0 = num (e / 1048576)) := Lib.hid rfl
  generalize num (e / 1048576) = s0 at *
  go_wp2_with fail
  refine (WS.out _ _ _ Q2.out (by simp; omega)).mono ?_
  rintro x w3 ⟨rfl, q3, _⟩
  rw [List.nil_append, ← S0.out] at q3
  have Q3 := Lib.hid q3
  have c0 := (Q3.out.choose_spec.choose_spec.2.2.2.2.cell (p := ⟨w.heap.size, 0, none⟩) z0).trans g0.out
  clear q3 Q2
  go_wp2_with fail
  clear c0
  go_loopw [13] (fun iv wr => ∃ k : Nat, k ≤ n ∧ iv = .int .i64 k ∧ Qb w0 wr (bn (sayF a o e k))) (fun iv _ => n - (intOf iv).toNat)
  case atStart => exact ⟨0, Nat.zero_le _, rfl, Q3.out⟩
  case round =>
    obtain ⟨k, hk, rfl, hq⟩ := hrel
    rename World => wr
    have QQ := Lib.hid hq
    have BW := Lib.hid (B0.out.trans (hq.choose_spec.choose_spec.2.2.2.2.mono B0.out.size))
    clear hq
    by_cases c : k < n
    · have f1 : decide ((k : Int) < (n : Int)) = true := by rw [decide_eq_true_iff]; omega
      obtain ⟨x1, x2⟩ := HK.out k c
      rw [← BW.out.cell (p := ⟨b, _, none⟩) hbl] at x1 x2
      have am := (HT.out.1.mo k c).1
      have al := HT.out.1.le k c
      have ob := HT.out.1.ob k c
      have I1 := Lib.hid (fun w' (q : Below wr.heap.size wr w') => inSeconds_c (a k) w' (TT.out.below (BW.out.trans (q.mono BW.out.size))) am (by omega))
      have I2 := Lib.hid (fun w' (q : Below wr.heap.size wr w') => Itoa_c (o k) w' (TT.out.below (BW.out.trans (q.mono BW.out.size))) ob.1 (by omega))
      have n1 := num_le (n := a k / 1048576) (by omega)
      have n2 := num_le (n := o k) (by omega)
      have sl := SZ.out k hk
      have SE : Hid (sayF a o e (k + 1) = sayF a o e k ++ (num (a k / 1048576) ++ num (o k))) := Lib.hid rfl
      generalize num (a k / 1048576) = sa at *
      generalize num (o k) = so at *
      generalize sayF a o e k = sk at *
      generalize a k = ak at *
      generalize o k = ok at *
      have zr : w.heap.size + 1 < wr.heap.size := by
        have := QQ.out.choose_spec.choose_spec.1.lt
        rw [Z0.out] at this
        exact this
      go_wp2_with fail
      have WB := Lib.hid (balloc (brefl wr) (.cells #[.int .i64 ak, .int .i64 ok] 55))
      have hh : Hid ((wr.alloc (.cells #[.int .i64 ak, .int .i64 ok] 55)).heap[wr.heap.size]? = some (.cells #[.int .i64 ak, .int .i64 ok] 55 (0, 0))) := Lib.hid (heap_alloc_new wr _)
      have zc : wr.heap.size < (wr.alloc (.cells #[.int .i64 ak, .int .i64 ok] 55)).heap.size := by simp
      generalize wr.alloc (.cells #[.int .i64 ak, .int .i64 ok] 55) = wc at *
      have Q4 := Lib.hid (QQ.out.below WB.out)
      have CE : Hid (∀ w' : World, w'.heap[wr.heap.size]? = some (.cells #[.int .i64 ak, .int .i64 ok] 55 (0, 0)) → w'.cell? ⟨wr.heap.size, 0, none⟩ = some (.int .i64 ak) ∧ w'.cell? ⟨wr.heap.size, 1, none⟩ = some (.int .i64 ok)) := Lib.hid fun w' q => by simp [World.cell?, q]
      have KP : Hid (∀ w' : World, Below wc.heap.size wc w' → w'.cell? ⟨wr.heap.size, 0, none⟩ = some (.int .i64 ak) ∧ w'.cell? ⟨wr.heap.size, 1, none⟩ = some (.int .i64 ok)) := Lib.hid fun w' q => CE.out w' ((q.block _ zc).trans hh.out)
      have KO : Hid (∀ w' w'' : World, Below wc.heap.size wc w' → Lib.OthersKept 5 (some (w.heap.size + 1)) w' w'' → w''.cell? ⟨wr.heap.size, 0, none⟩ = some (.int .i64 ak) ∧ w''.cell? ⟨wr.heap.size, 1, none⟩ = some (.int .i64 ok)) := Lib.hid fun w' w'' q r => CE.out w'' (r _ _ ((q.block _ zc).trans hh.out) (by simp; omega) (fun c fz e => by cases e))
      have J1 := Lib.hid (fun (w' : World) (q : Below wc.heap.size wc w') => I1.out w' (WB.out.trans (q.mono WB.out.size)))
      have J2 := Lib.hid (fun (w' : World) (q : Below wc.heap.size wc w') => I2.out w' (WB.out.trans (q.mono WB.out.size)))
      have J3 := Lib.hid (fun (w' : World) (q : Below wc.heap.size wc w') => WS.out w' (bn sk) (sa ++ so) (Q4.out.below q) (by rw [bn_len, ByteArray.size_append]; omega))
      have zs : (sa ++ so).size ≤ 20 := by rw [ByteArray.size_append]; omega
      have m1 : (sa.size : Int) ≤ 8388608 := by omega
      have m2 : (so.size : Int) ≤ 8388608 := by omega
      have m4 : sa.size ≤ 8388608 := by omega
      have m5 : so.size ≤ 8388608 := by omega
      have m6 : ¬ (9223372036854775807 < sa.size + so.size) := by omega
      have hb0 : Below wc.heap.size wc wc.drew := (brefl wc).drew
      go_region_held3 (fun w' => w'.cell? ⟨wr.heap.size, 0, none⟩ = some (.int .i64 ak) ∧ w'.cell? ⟨wr.heap.size, 1, none⟩ = some (.int .i64 ok))
        (first | exact KP.out _ (by assumption) | exact KO.out _ _ (by assumption) (by assumption))
        (first | (go_at_call 14; (with_reducible refine (J1.out _ (by assumption)).mono ?_); rintro e w' ⟨rfl, hb⟩; replace hb := Cv.bstep (w := wc) (by assumption) hb) | (go_at_call 15; (with_reducible refine (J2.out _ (by assumption)).mono ?_); rintro e w' ⟨rfl, hb⟩; replace hb := Cv.bstep (w := wc) (by assumption) hb) | (go_at_call 13; (with_reducible refine (J3.out _ (by assumption)).mono ?_); rintro e w' ⟨rfl, hq, ho⟩))
      all_goals
        rename Qb w0 _ _ => hq
        have QZ := Lib.hid hq
        clear hq
        rw [show bn sk ++ bn (sa ++ so) = bn (sayF a o e (k + 1)) from by rw [SE.out, bn_app sk]] at QZ
        go_wp2_with fail
        go_roundw
      case rel => exact ⟨k + 1, by omega, by go_num, QZ.out⟩
      case measure => simp [intOf]; omega
    · have f1 : decide ((k : Int) < (n : Int)) = false := by rw [decide_eq_false_iff_not]; omega
      obtain rfl : n = k := by omega
      have sl := SZ.out n (Nat.le_refl _)
      go_wp2_with fail
      refine (ST.out _ _ QQ.out).mono ?_
      rintro x w5 ⟨rfl, hb⟩
      have B5 := Lib.hid (B0.out.trans (hb.mono B0.out.size))
      clear hb
      generalize sayF a o e n = S at *
      have CV := conv_str w5 S
      have CB := Lib.hid (conv_below w5 S)
      have CY := Lib.hid (conv_bytes w5 S)
      have GC := grownCap_ge w5 S.size 0 5
      have GD := grownCap_le_maxLen w5 S.size 0 5 (by unfold maxLen; omega)
      unfold maxLen at GD
      generalize grownCap w5 S.size 0 5 = gc at *
      generalize Lib.bytesWorld w5 5 S = w6 at *
      have B6 := Lib.hid (B5.out.trans (CB.out.mono B5.out.size))
      have MD := Lib.hid (Hs.MD5_c w5.heap.size 0 S.size gc (gn S) w6 (GG.out.below B6.out) (by omega) GC (by omega) CY.out)
      clear CY CB GC GD
      go_wp2_with fail
      refine MD.out.mono ?_
      rintro x w7 ⟨⟨vv, rfl, own⟩, hb⟩
      have H1 := Hs.HexOwn_c own (by rw [Hs.md5_len]; omega) (Hs.ob_byte _ _ _) (by rw [Hs.md5_len]; omega)
      rw [Hs.md5_len, ← HTE.out] at H1
      have HX := Lib.hid H1
      have B7 := Lib.hid (B6.out.trans (hb.mono B6.out.size))
      clear hb own H1 MD CV
      go_wp2_with fail
      refine HX.out.mono ?_
      rintro x w8 ⟨rfl, hb⟩
      have B8 := Lib.hid (B7.out.trans (hb.mono B7.out.size))
      clear hb HX
      go_wp2_with fail
      go_ret
      exact ⟨rfl, B8.out⟩
end Go.Proofs.YtmehknhajoemgaaDoor.Wd
