/-
  A NMEA line's clock, kind and year: radio.clockOf, isKind, fullYear.
  Conditions: the fields have no more than 2^61 bytes.
-/
import Derived.Test.YtoecgabdjpgleaaGreatDoorRdL
import Derived.Test.YtoecgabdjpgleaaGreatDoorWpM
namespace Go.Proofs.YtoecgabdjpgleaaGreatDoor.Rd
open Go.RowKit Cv
set_option linter.unusedVariables false
set_option linter.unusedSimpArgs false

/-- what stands behind hhmmss, in ticks; -1: nothing that may stand there. -/
def tkR (r : ByteArray) : Int := if r.size = 0 then 0 else if Wd.gn r 0 = 46 ∧ 2 ≤ r.size ∧ r.size ≤ 7 ∧ 0 ≤ nm (r.extract 1 r.size) (r.size - 1) then nm (r.extract 1 r.size) (r.size - 1) * 10 ^ (7 - r.size) * 1048576 / 1000000 else -1
def Z0 (r : ByteArray) : ByteArray := ⟨#[48]⟩ ++ r
theorem z0_size (r : ByteArray) : (Z0 r).size = 1 + r.size := by rw [Z0, ByteArray.size_append]; rfl
theorem z0_list (r : ByteArray) : (Z0 r).data.toList = 48 :: r.data.toList := by simp [Z0]
theorem z0_0 (r : ByteArray) : Wd.gn (Z0 r) 0 = 48 := by rw [Wd.gn, z0_list]; rfl
theorem z0_s (r : ByteArray) (i : Nat) : Wd.gn (Z0 r) (i + 1) = Wd.gn r i := by rw [Wd.gn, z0_list, Wd.gn]; simp [List.getD_eq_getElem?_getD]
theorem z0_neg (r : ByteArray) : Wd.neg (Z0 r) = false := by rw [Wd.neg, z0_0]; simp
theorem z0_bod (r : ByteArray) : Wd.bod (Z0 r) = Z0 r := by rw [Wd.bod, z0_neg]; rfl
theorem z0_wn (r : ByteArray) : Wd.wn ((Z0 r).extract 0 1) = true ∧ Wd.va ((Z0 r).extract 0 1) ((Z0 r).extract 0 1).size = 0 := by
  have s1 : ((Z0 r).extract 0 1).size = 1 := by rw [size_ext _ _ _ (by rw [z0_size]; omega)]
  have g : Wd.gn ((Z0 r).extract 0 1) 0 = 48 := by rw [gn_ext (by omega), Nat.zero_add, z0_0]
  rw [s1]
  refine ⟨?_, by rw [Wd.va, Wd.va, g]⟩
  rw [Wd.wn, Wd.dgs_all (s := (Z0 r).extract 0 1) (fun i hi => by (obtain rfl : i = 0 := (by omega)); rw [g]; rfl), s1]
  rfl
theorem tk_pos {t : ByteArray} (h : Wd.neg t = false) (hb : Wd.bod t = t) : Wd.tk t = (Wd.mi t : Int) * 1048576 / 1000000 := by
  rw [Wd.tk, h, hb]
  rfl
theorem sec0 (r : ByteArray) : Wd.okS (Z0 r) = decide (0 ≤ tkR r) ∧ (Wd.okS (Z0 r) = true → Wd.tk (Z0 r) = tkR r) := by
  have zs := z0_size r
  have dd := Wd.di_spec (Z0 r) 46
  rw [Wd.di_dp] at dd
  obtain ⟨w1, w2⟩ := z0_wn r
  rw [Wd.okS, z0_bod, tk_pos (z0_neg r) (z0_bod r)]
  by_cases c0 : r.size = 0
  · have e : tkR r = 0 := by rw [tkR, if_pos c0]
    have dp1 : Wd.dp (Z0 r) (Z0 r).size = 1 := by
      rcases dd with ⟨_, h, _⟩ | ⟨_, h1, h2, _⟩
      · omega
      · have : Wd.dp (Z0 r) (Z0 r).size = 0 := by omega
        rw [this, z0_0] at h2
        cases h2
    have ok : Wd.okU (Z0 r) = true := by
      rw [Wd.okU, Wd.wp, dp1, w1, decide_eq_false (show ¬ 1 < (Z0 r).size by omega)]
      rfl
    have mi : Wd.mi (Z0 r) = 0 := by
      rw [Wd.mi, Wd.wp, dp1, w2, if_neg (by omega)]
    rw [e, ok, mi]
    exact ⟨rfl, fun _ => rfl⟩
  · by_cases c1 : Wd.gn r 0 = 46
    · have g1 : Wd.gn (Z0 r) 1 = 46 := by rw [show (1 : Nat) = 0 + 1 from rfl, z0_s]; exact c1
      have dp1 : Wd.dp (Z0 r) (Z0 r).size = 1 := Wd.dp_hit g1 (fun j hj => by (obtain rfl : j = 0 := (by omega)); rw [z0_0]; decide) _ (by omega)
      have fe : (Z0 r).extract 2 (Z0 r).size = r.extract 1 r.size := by
        apply ByteArray.ext
        apply Array.toList_inj.1
        rw [Lib.extract_data, Lib.extract_data, z0_list]
        simp only [List.drop_succ_cons]
        congr 1 <;> omega
      have fz := size_ext r 1 r.size (Nat.le_refl _)
      have ok : Wd.okU (Z0 r) = (Wd.dgs (r.extract 1 r.size) && decide ((r.extract 1 r.size).size ≤ 6)) := by
        rw [Wd.okU, Wd.wp, Wd.fp, dp1, w1, decide_eq_true (show 1 < (Z0 r).size by omega), fe]
        rfl
      have mi : Wd.mi (Z0 r) = Wd.fr (r.extract 1 r.size) (r.extract 1 r.size).size := by
        rw [Wd.mi, Wd.wp, Wd.fp, dp1, w2, if_pos (by omega), fe]
        omega
      by_cases c2 : 2 ≤ r.size ∧ r.size ≤ 7 ∧ 0 ≤ nm (r.extract 1 r.size) (r.size - 1)
      · have al : alld (r.extract 1 r.size) = true := by
          cases h : alld (r.extract 1 r.size) with
          | true => rfl
          | false => have := nm_dig (n := r.size - 1) h; omega
        have e : tkR r = nm (r.extract 1 r.size) (r.size - 1) * 10 ^ (7 - r.size) * 1048576 / 1000000 := by rw [tkR, if_neg c0, if_pos ⟨c1, c2.1, c2.2.1, c2.2.2⟩]
        have ok2 : Wd.okU (Z0 r) = true := by
          rw [ok, Wd.dgs_all (fun i hi => alld_at al i hi), decide_eq_true (by omega), decide_eq_true (by omega)]
          rfl
        have nn := nm_yes fz al
        have v : (Wd.mi (Z0 r) : Int) = nm (r.extract 1 r.size) (r.size - 1) * 10 ^ (7 - r.size) := by
          rw [mi, Wd.fr_va _ (by omega) (fun i hi => alld_at al i hi), nn, fz, show 6 - (r.size - 1) = 7 - r.size by omega]
          push_cast
          rfl
        have p : (0 : Int) ≤ tkR r := by
          rw [e, ← v]
          omega
        rw [ok2, decide_eq_true p, v, e]
        exact ⟨rfl, fun _ => rfl⟩
      · have e : tkR r = -1 := by rw [tkR, if_neg c0, if_neg (fun q => c2 ⟨q.2.1, q.2.2.1, q.2.2.2⟩)]
        have ok2 : Wd.okU (Z0 r) = false := by
          rw [ok]
          cases hd : Wd.dgs (r.extract 1 r.size) with
          | false => rfl
          | true =>
            rw [Bool.true_and, decide_eq_false_iff_not]
            intro q
            obtain ⟨k1, k2, k3⟩ := Wd.okd_dig (s := r.extract 1 r.size) (m := 6) (by rw [Wd.okd, hd, decide_eq_true q]; rfl)
            exact c2 ⟨by omega, by omega, by rw [nm_yes fz (alld_yes k1)]; omega⟩
        rw [e, ok2]
        exact ⟨rfl, fun q => by cases q⟩
    · have e : tkR r = -1 := by rw [tkR, if_neg c0, if_neg (fun q => c1 q.1)]
      have d2 : 2 ≤ Wd.dp (Z0 r) (Z0 r).size ∧ Wd.dp (Z0 r) (Z0 r).size ≤ (Z0 r).size := by
        rcases dd with ⟨_, h, _⟩ | ⟨_, h1, h2, _⟩
        · omega
        · refine ⟨?_, by omega⟩
          apply Decidable.byContradiction
          intro q
          have : Wd.dp (Z0 r) (Z0 r).size = 0 ∨ Wd.dp (Z0 r) (Z0 r).size = 0 + 1 := by omega
          rcases this with k | k
          · rw [k, z0_0] at h2; cases h2
          · rw [k, z0_s] at h2; exact c1 h2
      have ok : Wd.okU (Z0 r) = false := by
        have s2 : (Wd.wp (Z0 r)).size = Wd.dp (Z0 r) (Z0 r).size := by rw [Wd.wp, size_ext _ _ _ d2.2]; omega
        have g : Wd.gn (Wd.wp (Z0 r)) 0 = 48 := by rw [Wd.wp, gn_ext (by omega), Nat.zero_add, z0_0]
        rw [Wd.okU, Wd.wn, g, s2, decide_eq_true (show 1 < Wd.dp (Z0 r) (Z0 r).size by omega)]
        simp
      rw [e, ok]
      exact ⟨rfl, fun q => by cases q⟩

theorem clockOf_short (s : ByteArray) (h : s.size < 6) (w : World) :
    Calls Tryz.prog 16 #[.string s] w fun e w' => e = .returned (.tuple #[.agg #[.int .i64 0, .int .i64 0, .int .i64 0], .int .i64 0, .bool false]) ∧ Below w.heap.size w w' := by
  have e0 : decide ((s.size : Int) < 6) = true := decide_eq_true (by omega)
  go_enter Tryz.func16, Tryz.ntmps16
  go_wp2_with fail
  exact bodyPost_ret (v := .tuple #[.agg #[.int .i64 0, .int .i64 0, .int .i64 0], .int .i64 0, .bool false]) (by simp [results, Tryz.results16, go_sem]) rfl ⟨rfl, by repeat (first | exact brefl _ | refine balloc ?_ _ | refine bdrew ?_ _ | refine Below.setCell ?_ (by first | (simp; done) | (simp; omega)) _)⟩
def Ar3f (w : World) (b : Nat) (x y z : Int) : Prop := b < w.heap.size ∧ w.cell? ⟨b, 0, none⟩ = some (.int .i64 x) ∧ w.cell? ⟨b, 1, none⟩ = some (.int .i64 y) ∧ w.cell? ⟨b, 2, none⟩ = some (.int .i64 z) ∧ w.frozen? ⟨b, 0, none⟩ = false ∧ w.frozen? ⟨b, 1, none⟩ = false ∧ w.frozen? ⟨b, 2, none⟩ = false
theorem Ar3f.below {w w' : World} {b : Nat} {x y z : Int} (h : Ar3f w b x y z) (k : Below w.heap.size w w') : Ar3f w' b x y z :=
  ⟨Nat.lt_of_lt_of_le h.1 k.size, (k.cell (p := ⟨b, 0, none⟩) h.1).trans h.2.1, (k.cell (p := ⟨b, 1, none⟩) h.1).trans h.2.2.1, (k.cell (p := ⟨b, 2, none⟩) h.1).trans h.2.2.2.1, (k.frozen (p := ⟨b, 0, none⟩) h.1).trans h.2.2.2.2.1, (k.frozen (p := ⟨b, 1, none⟩) h.1).trans h.2.2.2.2.2.1, (k.frozen (p := ⟨b, 2, none⟩) h.1).trans h.2.2.2.2.2.2⟩
theorem Ar3f.new (w : World) (x y z : Int) (t : TypeId) : Ar3f (w.alloc (.cells #[.int .i64 x, .int .i64 y, .int .i64 z] t)) w.heap.size x y z :=
  ⟨by simp, by simp [go_sem], by simp [go_sem], by simp [go_sem], by simp [go_sem], by simp [go_sem], by simp [go_sem]⟩
/-- a field's hhmmss and what stands behind it. -/
def hmN (s : ByteArray) : Int := nm (s.extract 0 6) 6
def tkN (s : ByteArray) : Int := tkR (s.extract 6 s.size)
def ckE (s : ByteArray) : Ending := .returned (.tuple #[pr3 (if 0 ≤ hmN s then hmN s else 0), .int .i64 (if 0 ≤ tkN s then tkN s else 0), .bool (decide (0 ≤ hmN s) && decide (0 ≤ tkN s))])
set_option maxRecDepth 100000 in
set_option maxHeartbeats 4000000 in
theorem clockOf_long (s : ByteArray) (h : 6 ≤ s.size) (w : World) (hs : s.size ≤ 2305843009213693952) :
    Calls Tryz.prog 16 #[.string s] w fun e w' => e = ckE s ∧ Below w.heap.size w w' := by
  have PC := Lib.hid (fun w => pairs_c (s.extract 0 6) w)
  have zs := z0_size (s.extract 6 s.size)
  have xs := size_ext s 6 s.size (Nat.le_refl _)
  have SC := Lib.hid (fun w => Wd.Seconds_c (Z0 (s.extract 6 s.size)) w (by omega))
  obtain ⟨k1, k2⟩ := sec0 (s.extract 6 s.size)
  have SC2 : Hid (∀ w, Calls Tryz.prog 47 #[.string (Z0 (s.extract 6 s.size))] w fun e w' => e = .returned (.tuple #[.int .i64 (if 0 ≤ tkN s then tkN s else 0), .int .i64 (if 0 ≤ tkN s then 0 else 4)]) ∧ Below w.heap.size w w') := Lib.hid fun w => by
    have q := SC.out w
    unfold tkN
    by_cases c : 0 ≤ tkR (s.extract 6 s.size)
    · rw [decide_eq_true c] at k1
      rw [if_pos k1, if_pos k1, k2 k1] at q
      rw [if_pos c, if_pos c]
      exact q
    · rw [decide_eq_false c] at k1
      rw [if_neg (by rw [k1]; decide), if_neg (by rw [k1]; decide)] at q
      rw [if_neg c, if_neg c]
      exact q
  have e0 : decide ((s.size : Int) < 6) = false := decide_eq_false (by omega)
  have i0 : (6 : Int) ≤ (s.size : Int) := by omega
  unfold ckE
  unfold Z0 at SC2
  rw [show nm (s.extract 0 6) 6 = hmN s from rfl] at PC
  clear SC k1 k2 zs
  unfold prE pr3 at PC
  unfold pr3
  generalize hmN s = c at *
  generalize tkN s = k at *
  have hz : Hid ((⟨#[48]⟩ ++ s.extract 6 s.size : ByteArray).size ≤ 9223372036854775807) := Lib.hid (by rw [ByteArray.size_append, xs]; show 1 + _ ≤ _; omega)
  generalize decide (0 ≤ c) = rc at *
  generalize (if 0 ≤ c then c else 0) = zc at *
  have HK : Hid ((if 0 ≤ k then (0 : Int) else 4) = if decide (0 ≤ k) = true then 0 else 4) := Lib.hid (by by_cases q : 0 ≤ k <;> simp [q])
  rw [HK.out] at SC2
  clear HK
  generalize decide (0 ≤ k) = rk at *
  generalize (if 0 ≤ k then k else 0) = zk at *
  go_enter Tryz.func16, Tryz.ntmps16
  go_wp2_with fail
  refine (PC.out _).mono ?_
  rintro e w1 ⟨rfl, hb⟩
  have A1 := Lib.hid ((Ar3f.new w 0 0 0 43).below hb)
  have B1 := Lib.hid (bstep (balloc (brefl w) _) hb)
  have W1 : Hid (w.heap.size + 1 ≤ w1.heap.size) := Lib.hid (by have := hb.size; simpa using this)
  clear hb PC
  go_wp2_with fail
  have A2 := Lib.hid (A1.out.below (balloc (brefl w1) (.cells #[.int .i64 (zc / 10000), .int .i64 (zc / 100 % 100), .int .i64 (zc % 100)] 43)))
  have D2 := Lib.hid (Ar3f.new w1 (zc / 10000) (zc / 100 % 100) (zc % 100) 43)
  have B2 := Lib.hid (balloc B1.out (.cells #[.int .i64 (zc / 10000), .int .i64 (zc / 100 % 100), .int .i64 (zc % 100)] 43))
  clear A1
  refine (SC2.out _).mono ?_
  rintro e w3 ⟨rfl, hb⟩
  have B3 := Lib.hid (bstep B2.out hb)
  obtain ⟨a0, a1, a2, a3, a4, a5, a6⟩ := A2.out.below hb
  obtain ⟨d0, d1, d2, d3, d4, d5, d6⟩ := D2.out.below hb
  clear hb SC2 A2 D2
  have ne : w.heap.size < w1.heap.size := Nat.lt_of_lt_of_le (by simp) (show w.heap.size + 1 ≤ w1.heap.size from W1.out)
  cases rc with
  | false =>
    go_wp2_with fail
    all_goals exact bodyPost_ret (v := .tuple #[.agg #[.int .i64 (zc / 10000), .int .i64 (zc / 100 % 100), .int .i64 (zc % 100)], .int .i64 zk, .bool false]) (by simp [results, Tryz.results16, go_sem, a0, a1, a2, a3, a4, a5, a6]) rfl ⟨rfl, by repeat (first | exact B3.out | exact brefl _ | refine balloc ?_ _ | refine bdrew ?_ _ | refine Below.setCell ?_ (by first | (simp; done) | (simp; omega)) _)⟩
  | true =>
    cases rk with
    | false =>
      go_wp2_with fail
      exact bodyPost_ret (v := .tuple #[.agg #[.int .i64 (zc / 10000), .int .i64 (zc / 100 % 100), .int .i64 (zc % 100)], .int .i64 zk, .bool false]) (by simp [results, Tryz.results16, go_sem, a0, a1, a2, a3, a4, a5, a6]) rfl ⟨rfl, by repeat (first | exact B3.out | exact brefl _ | refine balloc ?_ _ | refine bdrew ?_ _ | refine Below.setCell ?_ (by first | (simp; done) | (simp; omega)) _)⟩
    | true =>
      go_wp2_with fail
      exact bodyPost_ret (v := .tuple #[.agg #[.int .i64 (zc / 10000), .int .i64 (zc / 100 % 100), .int .i64 (zc % 100)], .int .i64 zk, .bool true]) (by simp [results, Tryz.results16, go_sem, a0, a1, a2, a3, a4, a5, a6]) rfl ⟨rfl, by repeat (first | exact B3.out | exact brefl _ | refine balloc ?_ _ | refine bdrew ?_ _ | refine Below.setCell ?_ (by first | (simp; done) | (simp; omega)) _)⟩
end Go.Proofs.YtoecgabdjpgleaaGreatDoor.Rd
