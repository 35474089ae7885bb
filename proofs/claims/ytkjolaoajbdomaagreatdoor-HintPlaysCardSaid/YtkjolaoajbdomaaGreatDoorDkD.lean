/-
  The power: the contracts of disk.refusal, of power.change and of power.cutAt.
  Conditions: none.
-/
import Derived.Test.YtkjolaoajbdomaaGreatDoorDkC
namespace Go.Proofs.YtkjolaoajbdomaaGreatDoor.Dk
open Go.RowKit Go.ChangeShapes Go.WideShapes Go.ChangeAt Go.Joins Go.Maps By Ct
set_option linter.unusedVariables false
set_option linter.unusedSimpArgs false

theorem Pm.turn {w w' : World} {d : Nat} {s s' : Dk} {X : Nat → Prop} (h : Pm w d s X) (hs : w.heap.size ≤ w'.heap.size) (e : ∀ k, X k → k ≠ d → w'.heap[k]? = w.heap[k]?) (hw : Wf s') (hf : s'.fs = s.fs) {mv : Option Nat} {o c : Bool} {a k : Int}
    (hm : w.cell? ⟨d, 0, none⟩ = some (.map mv)) (hb : Blk w' d [.map mv, .bool o, .bool c, .int .i64 a, .int .i64 k]) (hp : Pw s' o c a k) : Pm w' d s' X := by
  obtain ⟨h0, h1, h2, mv', o', c', a', k', hb', hp', hf'⟩ := h
  obtain rfl : mv = mv' := by
    have y := (hb'.2 0 _ rfl).1
    rw [hm] at y
    simpa using y
  exact ⟨hw, h1, fun g hg => Nat.lt_of_lt_of_le (h2 g hg) hs, mv, o, c, a, k, hb, hp, by rw [hf]; exact hf'.keep e (fun k q => q)⟩
/-- a row of strings: what a call is handed as its names. -/
def Sr (w : World) (b : Nat) (l : List ByteArray) : Prop := b < w.heap.size ∧ ∀ i x, l[i]? = some x → w.cell? ⟨b, i, none⟩ = some (.string x)
theorem Sr.below {w w' : World} {b : Nat} {l : List ByteArray} (h : Sr w b l) (q : Below w.heap.size w w') : Sr w' b l := ⟨Nat.lt_of_lt_of_le h.1 q.size, fun i x hx => (q.cell (p := ⟨b, i, none⟩) h.1).trans (h.2 i x hx)⟩
theorem sr_one (w : World) (s : ByteArray) (t : TypeId) : Sr (w.alloc (.cells #[.string s] t)) w.heap.size [s] := by
  have h := Blk.new' w #[.string s] t
  refine ⟨h.1, fun i x hx => ?_⟩
  cases i with
  | zero => simp at hx; subst hx; exact (h.2 0 _ rfl).1
  | succ i => simp at hx
theorem sr_two (w : World) (s s' : ByteArray) (t : TypeId) : Sr (w.alloc (.cells #[.string s, .string s'] t)) w.heap.size [s, s'] := by
  have h := Blk.new' w #[.string s, .string s'] t
  refine ⟨h.1, fun i x hx => ?_⟩
  match i, hx with
  | 0, hx => simp at hx; subst hx; exact (h.2 0 _ rfl).1
  | 1, hx => simp at hx; subst hx; exact (h.2 1 _ rfl).1
  | i + 2, hx => simp at hx
/-- why a call is refused. -/
def refE (o : Bool) (l : List ByteArray) : Int := if o = true then 50 else if l.all (fun s => okN s.data.toList) = true then 0 else 4
set_option maxRecDepth 100000 in
theorem refusal_nil (v : Value) (w : World) : Calls Tryz.prog 32 #[.pointer none, v] w fun e w' => e = .returned (.int .i64 1) ∧ w' = w := by
  go_enter Tryz.func32, Tryz.ntmps32
  go_wp2_with fail
  go_ret
  exact ⟨rfl, rfl⟩
set_option maxRecDepth 100000 in
set_option maxHeartbeats 8000000 in
theorem refusal_c {w : World} {d b cap : Nat} {o : Bool} {l : List ByteArray} (h : Sr w b l) (hl : l.length ≤ 2) (hc : l.length ≤ cap) (hd : w.cell? ⟨d, 1, none⟩ = some (.bool o)) :
    Calls Tryz.prog 32 #[.pointer (some ⟨d, 0, none⟩), .slice (some ⟨b, 0, none⟩) l.length cap] w fun e w' => e = .returned (.int .i64 (refE o l)) ∧ Below w.heap.size w w' := by
  obtain ⟨R, hR⟩ : ∃ R, refE o l = R := ⟨_, rfl⟩
  rw [hR]
  have HR := Lib.hid hR
  have H := Lib.hid h
  obtain ⟨m, hm⟩ : ∃ m, l.length = m := ⟨_, rfl⟩
  have HM := Lib.hid hm
  rw [hm] at hl hc ⊢
  clear h hm hR
  cases o with
  | true =>
    obtain rfl : R = 50 := HR.out.symm
    go_enter Tryz.func32, Tryz.ntmps32
    go_wp2_with fail
    go_ret
    exact ⟨rfl, brefl w⟩
  | false =>
    have m2 : (m : Int) ≤ 2 := by omega
    go_enter Tryz.func32, Tryz.ntmps32
    go_upto_region 6 with fail
    clear hd
    go_loopw [16] (fun iv wr => ∃ k : Nat, k ≤ m ∧ iv = .int .i64 (k : Nat) ∧ (∀ i x, i < k → l[i]? = some x → okN x.data.toList = true) ∧ Below w.heap.size w wr) (fun iv _ => m - (intOf iv).toNat)
    case atStart => exact ⟨0, Nat.zero_le _, rfl, fun i x h => absurd h (Nat.not_lt_zero _), brefl w⟩
    case round =>
      obtain ⟨k, hk, rfl, hall, hb⟩ := hrel
      rename World => wr
      have HB := Lib.hid hb
      have HA := Lib.hid hall
      clear hb hall
      by_cases c : k < m
      · have e1 : decide ((k : Int) < (m : Int)) = true := decide_eq_true (by omega)
        have k1 : (k : Int) < (m : Int) := by omega
        have k0 : (0 : Int) ≤ (k : Int) := by omega
        obtain ⟨x, hx⟩ : ∃ x, l[k]? = some x := ⟨_, List.getElem?_eq_getElem (by rw [HM.out]; exact c)⟩
        have cx : wr.cell? ⟨b, k, none⟩ = some (.string x) := (H.out.below HB.out).2 k x hx
        have HX := Lib.hid hx
        clear hx
        go_upto_region 8 with fail
        go_wp2_with fail
        refine (isName_c x wr).mono ?_
        rintro e w2 ⟨rfl, hb2⟩
        have HB2 := Lib.hid (bstep HB.out hb2)
        clear hb2 cx
        cases c2 : okN x.data.toList with
        | true =>
          have HN : Hid (∀ i y, i < k + 1 → l[i]? = some y → okN y.data.toList = true) := Lib.hid fun i y hi hy => by
            by_cases q : i = k
            · subst q
              rw [HX.out] at hy
              cases hy
              exact c2
            · exact HA.out i y (by omega) hy
          go_wp2_with fail
          exact ⟨⟨k + 1, by omega, by go_num, HN.out, HB2.out⟩, by simp [intOf]; omega⟩
        | false =>
          obtain rfl : R = 4 := by
            rw [← HR.out]
            unfold refE
            rw [if_neg (by decide), if_neg]
            intro q
            have := List.all_eq_true.1 q x (List.mem_of_getElem? HX.out)
            rw [c2] at this
            cases this
          go_wp2_with fail
          go_ret
          exact ⟨rfl, HB2.out⟩
      · have e1 : decide ((k : Int) < (m : Int)) = false := decide_eq_false (by omega)
        obtain rfl : R = 0 := by
          rw [← HR.out]
          unfold refE
          rw [if_neg (by decide), if_pos]
          refine List.all_eq_true.2 fun x hx => ?_
          obtain ⟨i, hi, rfl⟩ := List.mem_iff_getElem.1 hx
          exact HA.out i _ (by have := HM.out; omega) (List.getElem?_eq_getElem hi)
        go_wp2_with fail
        go_ret
        exact ⟨rfl, HB.out⟩
/-- how far a change comes, and its answer. -/
def chgR (s : Dk) : Int := if (chg s).out = true then s.keep else 9223372036854775807
def chgE (s : Dk) : Int := if (chg s).out = true then 50 else 0
set_option maxRecDepth 100000 in
set_option maxHeartbeats 8000000 in
theorem change_c {w : World} {d : Nat} {s : Dk} {X : Nat → Prop} (h : Pm w d s X) (ho : s.out = false) :
    Calls Tryz.prog 33 #[.pointer (some ⟨d, 1, none⟩)] w fun e w' => e = .returned (.tuple #[.int .i64 (chgR s), .int .i64 (chgE s)]) ∧ Pm w' d (chg s) X ∧ Tu (Td d) w w' := by
  have H := Lib.hid h
  obtain ⟨h0, h1, h2, mv, o, c, a, k, hb, hp, hf⟩ := h
  have HO := Lib.hid ho
  obtain ⟨rfl, hp2, a1, a2, k1, k2⟩ := hp
  obtain ⟨hc, hp3⟩ := hp2 ho
  have W := Lib.hid h0
  have HB := Lib.hid hb
  obtain ⟨c0, f0⟩ := hb.2 0 _ rfl
  obtain ⟨c1, f1⟩ := hb.2 1 _ rfl
  obtain ⟨c2, f2⟩ := hb.2 2 _ rfl
  obtain ⟨c3, f3⟩ := hb.2 3 _ rfl
  obtain ⟨c4, f4⟩ := hb.2 4 _ rfl
  have C0 := Lib.hid c0
  rw [ho] at c1
  clear hp2 hf hb h1 h2 ho h0 c0 f0
  by_cases q : s.left < 0
  · obtain rfl : c = false := by rw [hc]; exact decide_eq_false (by omega)
    have e : chg s = s := by unfold chg; rw [if_pos q]
    have E1 : Hid (chgR s = 9223372036854775807) := Lib.hid (by unfold chgR; rw [e, HO.out]; rfl)
    have E2 : Hid (chgE s = 0) := Lib.hid (by unfold chgE; rw [e, HO.out]; rfl)
    rw [E1.out, E2.out, e]
    clear hc hp3
    go_enter Tryz.func33, Tryz.ntmps33
    go_wp2_with fail
    go_ret2
    exact ⟨rfl, H.out, Tu.rf _ _⟩
  · obtain rfl : c = true := by rw [hc]; exact decide_eq_true (by omega)
    obtain ⟨rfl, rfl⟩ := hp3 rfl
    by_cases q2 : 0 < s.left
    · have e : chg s = { s with left := s.left - 1, out := false } := by unfold chg; rw [if_neg q, decide_eq_false (by omega)]
      have E1 : Hid (chgR s = 9223372036854775807) := Lib.hid (by unfold chgR; rw [e]; rfl)
      have E2 : Hid (chgE s = 0) := Lib.hid (by unfold chgE; rw [e]; rfl)
      rw [E1.out, E2.out]
      have g1 : decide (0 < s.left) = true := decide_eq_true q2
      have PW : Hid (Pw (chg s) false true (s.left - 1) s.keep) := Lib.hid (by rw [e]; exact ⟨rfl, fun _ => ⟨(decide_eq_true (by show 0 ≤ s.left - 1; omega)).symm, fun _ => ⟨rfl, rfl⟩⟩, by omega, by omega, k1, k2⟩)
      have WF := Lib.hid (wf_chg W.out HO.out)
      clear hc hp3 e
      go_enter Tryz.func33, Tryz.ntmps33
      go_wp2_with fail
      go_ret2
      refine ⟨rfl, ?_, (Tu.rf _ _).set _ _⟩
      have B := HB.out
      rw [HO.out] at B
      exact H.out.turn (by simp) (fun k _ hk => set_other hk) WF.out (chg_fs s) C0.out (blk_set B 3 _) PW.out
    · have q3 : s.left = 0 := by omega
      have e : chg s = { s with left := -1, out := true } := by unfold chg; rw [if_neg q, q3]; rfl
      have E1 : Hid (chgR s = s.keep) := Lib.hid (by unfold chgR; rw [e]; rfl)
      have E2 : Hid (chgE s = 50) := Lib.hid (by unfold chgE; rw [e]; rfl)
      rw [E1.out, E2.out]
      have g1 : decide (0 < s.left) = false := decide_eq_false q2
      have PW : Hid (Pw (chg s) true false 0 0) := Lib.hid (by rw [e]; exact ⟨rfl, fun z => (by cases z), by omega, by omega, by omega, by omega⟩)
      have WF := Lib.hid (wf_chg W.out HO.out)
      clear hc hp3 e
      go_enter Tryz.func33, Tryz.ntmps33
      go_wp2_with fail
      go_ret2
      have B := HB.out
      exact ⟨rfl, H.out.turn (by simp) (fun k _ hk => (set_other hk).trans ((set_other hk).trans ((set_other hk).trans (set_other hk)))) WF.out (chg_fs s) C0.out (blk_set (blk_set (blk_set (blk_set B 1 (.bool true)) 2 (.bool false)) 3 (.int .i64 0)) 4 (.int .i64 0)) PW.out,
        ((((Tu.rf _ _).set _ _).set _ _).set _ _).set _ _⟩
/-- of a disk in memory: its cells. -/
theorem Pm.open {w : World} {d : Nat} {s : Dk} {X : Nat → Prop} (h : Pm w d s X) : ∃ mv o c a k, Blk w d [.map mv, .bool o, .bool c, .int .i64 a, .int .i64 k] ∧ Pw s o c a k ∧ Pf w d X mv s.fs := h.2.2.2
set_option maxRecDepth 100000 in
set_option maxHeartbeats 8000000 in
theorem cutAt_c {w : World} {d : Nat} {s : Dk} {X : Nat → Prop} (h : Pm w d s X) (n k : Int) (h0 : 0 ≤ n) (h1 : n ≤ 9223372036854775807) (h2 : -9223372036854775808 ≤ k) (h3 : k ≤ 9223372036854775807) :
    Calls Tryz.prog 31 #[.pointer (some ⟨d, 1, none⟩), .int .i64 n, .int .i64 k] w fun e w' => e = .returned (.tuple #[]) ∧ Pm w' d (cutS s n k) X ∧ Tu (Td d) w w' := by
  have H := Lib.hid h
  obtain ⟨mv, o, c, a, k', hb, hp, hf⟩ := h.open
  have HB := Lib.hid hb
  have WF := Lib.hid (wf_cut h.1 (n := n) h1 h2 h3)
  have C0 := Lib.hid (hb.2 0 _ rfl).1
  have FS : Hid ((cutS s n k).fs = s.fs) := Lib.hid (by unfold cutS; split <;> first | rfl | (split <;> rfl))
  have PW : Hid (Pw (cutS s n k) o true n k) := Lib.hid (by
    have hn : ¬ n < 0 := by omega
    unfold cutS
    rw [if_neg hn]
    split
    · rename_i q
      exact ⟨hp.1, fun z => absurd q (by rw [z]; decide), by omega, h1, h2, h3⟩
    · exact ⟨hp.1, fun _ => ⟨(decide_eq_true h0).symm, fun _ => ⟨rfl, rfl⟩⟩, by omega, h1, h2, h3⟩)
  obtain ⟨c2, f2⟩ := hb.2 2 _ rfl
  obtain ⟨c3, f3⟩ := hb.2 3 _ rfl
  obtain ⟨c4, f4⟩ := hb.2 4 _ rfl
  clear hb hp hf h
  go_enter Tryz.func31, Tryz.ntmps31
  go_wp2_with fail
  go_end0
  have B := HB.out
  exact ⟨rfl, H.out.turn (by simp) (fun k _ hk => (set_other hk).trans ((set_other hk).trans (set_other hk))) WF.out FS.out C0.out (blk_set (blk_set (blk_set B 2 (.bool true)) 3 (.int .i64 n)) 4 (.int .i64 k)) PW.out,
    (((Tu.rf _ _).set _ _).set _ _).set _ _⟩
set_option maxRecDepth 100000 in
theorem Cut_nil (n k : Int) (w : World) : Calls Tryz.prog 12 #[.pointer none, .int .i64 n, .int .i64 k] w fun e w' => e = .returned (.int .i64 1) ∧ w' = w := by
  go_enter Tryz.func12, Tryz.ntmps12
  go_wp2_with fail
  go_ret
  exact ⟨rfl, rfl⟩
set_option maxRecDepth 100000 in
theorem Cut_c {w : World} {d : Nat} {s : Dk} {X : Nat → Prop} (h : Pm w d s X) (n k : Int) (h1 : n ≤ 9223372036854775807) (h2 : -9223372036854775808 ≤ k) (h3 : k ≤ 9223372036854775807) :
    Calls Tryz.prog 12 #[.pointer (some ⟨d, 0, none⟩), .int .i64 n, .int .i64 k] w fun e w' => e = .returned (.int .i64 (cutE n)) ∧ Pm w' d (cutS s n k) X ∧ Tu (Td d) w w' := by
  have H := Lib.hid h
  by_cases c : n < 0
  · have e1 : decide (n < 0) = true := decide_eq_true c
    have E : Hid (cutE n = 2 ∧ cutS s n k = s) := Lib.hid ⟨if_pos c, if_pos c⟩
    rw [E.out.1, E.out.2]
    go_enter Tryz.func12, Tryz.ntmps12
    go_wp2_with fail
    go_ret
    exact ⟨rfl, H.out, Tu.rf _ _⟩
  · have e1 : decide (n < 0) = false := decide_eq_false c
    have E : Hid (cutE n = 0) := Lib.hid (if_neg c)
    rw [E.out]
    have K := Lib.hid (cutAt_c h n k (by omega) h1 h2 h3)
    clear h
    go_enter Tryz.func12, Tryz.ntmps12
    go_wp2_with fail
    refine K.out.mono ?_
    rintro e w' ⟨rfl, hp, ht⟩
    have HP := Lib.hid hp
    have HT := Lib.hid ht
    clear hp ht
    go_wp2_with fail
    go_ret
    exact ⟨rfl, HP.out, HT.out⟩
set_option maxRecDepth 100000 in
theorem Restart_nil (w : World) : Calls Tryz.prog 14 #[.pointer none] w fun e w' => e = .returned (.int .i64 1) ∧ w' = w := by
  go_enter Tryz.func14, Tryz.ntmps14
  go_wp2_with fail
  go_ret
  exact ⟨rfl, rfl⟩
set_option maxRecDepth 100000 in
set_option maxHeartbeats 8000000 in
theorem Restart_c {w : World} {d : Nat} {s : Dk} {X : Nat → Prop} (h : Pm w d s X) :
    Calls Tryz.prog 14 #[.pointer (some ⟨d, 0, none⟩)] w fun e w' => e = .returned (.int .i64 0) ∧ Pm w' d (restart s) X ∧ Tu (Td d) w w' := by
  have H := Lib.hid h
  obtain ⟨mv, o, c, a, k', hb, hp, hf⟩ := h.open
  have HB := Lib.hid hb
  have WF := Lib.hid (wf_restart h.1)
  have C0 := Lib.hid (hb.2 0 _ rfl).1
  have PW : Hid (Pw (restart s) false false 0 0) := Lib.hid ⟨rfl, fun _ => ⟨rfl, fun z => by cases z⟩, by omega, by omega, by omega, by omega⟩
  obtain ⟨c1, f1⟩ := hb.2 1 _ rfl
  obtain ⟨c2, f2⟩ := hb.2 2 _ rfl
  obtain ⟨c3, f3⟩ := hb.2 3 _ rfl
  obtain ⟨c4, f4⟩ := hb.2 4 _ rfl
  clear hb hp hf h
  go_enter Tryz.func14, Tryz.ntmps14
  go_wp2_with fail
  go_ret
  have B := HB.out
  exact ⟨rfl, H.out.turn (by simp) (fun k _ hk => (set_other hk).trans ((set_other hk).trans ((set_other hk).trans (set_other hk)))) WF.out rfl C0.out (blk_set (blk_set (blk_set (blk_set B 1 (.bool false)) 2 (.bool false)) 3 (.int .i64 0)) 4 (.int .i64 0)) PW.out,
    ((((Tu.rf _ _).set _ _).set _ _).set _ _).set _ _⟩
end Go.Proofs.YtkjolaoajbdomaaGreatDoor.Dk
