/-
  The program's check of candidates and numbers.
  Conditions: none but that they lie in memory.
-/
import Derived.Test.YtkmbeogmgehnfaaVpC
namespace Go.Proofs.Ytkmbeogmgehnfaa.Vo
open Go.RowKit Go.ChangeShapes Go.WideShapes Go.ChangeAt Go.Joins Fl Hu
set_option linter.unusedVariables false
set_option linter.unusedSimpArgs false

theorem outOf_c {w : World} {B : Nat} {a : Option Addr} {m cap : Nat} (i : Int) (hB : w.cell? ⟨B, 0, none⟩ = some (.slice a m cap)) :
    Calls Try.prog 43 #[.int .i64 i, .pointer (some ⟨B, 0, none⟩)] w fun e w' => e = .returned (.bool (!decide (0 ≤ i ∧ i < (m : Int)))) ∧ w' = w := by
  by_cases c1 : i < 0
  · have e1 := decide_eq_true c1
    rw [show (!decide (0 ≤ i ∧ i < (m : Int))) = true from by rw [decide_eq_false (by omega)]; rfl]
    go_enter Try.func43, Try.ntmps43
    go_wp2_with fail
    go_ret
    exact ⟨rfl, rfl⟩
  · have e1 := decide_eq_false c1
    by_cases c2 : (m : Int) ≤ i
    · have e2 := decide_eq_true c2
      rw [show (!decide (0 ≤ i ∧ i < (m : Int))) = true from by rw [decide_eq_false (by omega)]; rfl]
      go_enter Try.func43, Try.ntmps43
      go_wp2_with fail
      go_ret
      exact ⟨rfl, rfl⟩
    · have e2 := decide_eq_false c2
      rw [show (!decide (0 ≤ i ∧ i < (m : Int))) = false from by rw [decide_eq_true (by omega)]; rfl]
      go_enter Try.func43, Try.ntmps43
      go_wp2_with fail
      go_ret
      exact ⟨rfl, rfl⟩
set_option maxRecDepth 100000 in
set_option maxHeartbeats 4000000 in
theorem indexI_c {w : World} {sv : Value} {S : List Int} {B : Nat} {a : Option Addr} {m cap : Nat} (hs : Is w sv S) (hn : S.length ≤ 35184372088832) (hB : w.cell? ⟨B, 0, none⟩ = some (.slice a m cap)) :
    Calls Try.prog 55 #[sv, .func (.func 43) #[] #[.pointer (some ⟨B, 0, none⟩)]] w fun e w' => (∃ i : Int, e = .returned (.int .i64 i) ∧ decide (0 ≤ i) = !decide (∀ i ∈ S, 0 ≤ i ∧ i < (m : Int))) ∧ w' = w := by
  have HZ := Lib.hid hs
  have OC := Lib.hid (fun i => outOf_c i hB)
  obtain ⟨sa, sc, rfl, p1, p2, _⟩ := hs
  obtain ⟨n, hm⟩ : ∃ n, S.length = n := ⟨_, rfl⟩
  have HM := Lib.hid hm
  have AQ : Hid (∀ c ∈ S, ¬ (0 ≤ c ∧ c < (m : Int)) → (!decide (∀ i ∈ S, 0 ≤ i ∧ i < (m : Int))) = true) := Lib.hid fun c hc n => by rw [decide_eq_false fun q => n (q c hc)]; rfl
  have AN : Hid ((∀ c ∈ S, 0 ≤ c ∧ c < (m : Int)) → (!decide (∀ i ∈ S, 0 ≤ i ∧ i < (m : Int))) = false) := Lib.hid fun q => by rw [decide_eq_true q]; rfl
  generalize (!decide (∀ i ∈ S, 0 ≤ i ∧ i < (m : Int))) = r at *
  rw [hm] at HZ p1 hn ⊢
  have n0 : (0 : Int) ≤ (n : Int) := by omega
  have n1 : (n : Int) ≤ 35184372088832 := by omega
  have n2 : (n : Int) ≤ (sc : Int) := by omega
  have n3 : (sc : Int) ≤ 9223372036854775807 := by omega
  clear hm hB
  go_enter Try.func55, Try.ntmps55
  go_wp2_with fail
  go_loopw [5, 8] (fun _ iv wr => ∃ k : Nat, k ≤ n ∧ iv = .int .i64 (k : Nat) ∧ (∀ i ∈ S.take k, 0 ≤ i ∧ i < (m : Int)) ∧ wr = w) (fun _ iv _ => n - (intOf iv).toNat)
  case atStart => exact ⟨0, by omega, rfl, by simp, rfl⟩
  case round =>
    obtain ⟨k, hk, rfl, hok, rfl⟩ := hrel
    have HK := Lib.hid hok
    clear hok
    by_cases c : k < n
    · have e1 : decide ((k : Int) < (n : Int)) = true := decide_eq_true (by omega)
      have e2 : decide (k < n) = true := decide_eq_true c
      have k1 : (k : Int) < (n : Int) := by omega
      have k0 : (0 : Int) ≤ (k : Int) := by omega
      have wk : IntKind.i64.wrap ((k : Int) + 1) = (k : Int) + 1 := wrap_in (by omega) (by omega)
      obtain ⟨x, hx⟩ : ∃ x, S[k]? = some x := ⟨_, List.getElem?_eq_getElem (by rw [HM.out]; exact c)⟩
      have HX := Lib.hid hx
      have CC := Lib.hid (OC.out x)
      obtain ⟨b, off, rfl, y0⟩ := HZ.out.at hx
      clear hx
      by_cases ok : 0 ≤ x ∧ x < (m : Int)
      · rw [decide_eq_true ok] at CC
        have NK := Lib.hid (all_more (P := fun i => 0 ≤ i ∧ i < (m : Int)) HX.out HK.out ok)
        go_wp2_with fail
        refine CC.out.mono ?_
        rintro e w3 ⟨rfl, rfl⟩
        go_wp2_with fail
        exact ⟨⟨k + 1, by omega, by go_num, NK.out, by first | trivial | rfl⟩, by simp [intOf]; omega⟩
      · rw [decide_eq_false ok] at CC
        have NO := Lib.hid (AQ.out x (List.mem_of_getElem? HX.out) ok)
        go_wp2_with fail
        refine CC.out.mono ?_
        rintro e w3 ⟨rfl, rfl⟩
        go_wp2_with fail
        go_ret
        exact ⟨⟨_, rfl, by rw [NO.out]; exact decide_eq_true k0⟩, rfl⟩
    · have e1 : decide ((k : Int) < (n : Int)) = false := decide_eq_false (by omega)
      have e2 : decide (k < n) = false := decide_eq_false c
      obtain rfl : k = n := by omega
      have NO := Lib.hid (AN.out (all_done HM.out HK.out))
      go_wp2_with fail
      go_ret
      exact ⟨⟨_, rfl, by rw [NO.out]; rfl⟩, rfl⟩
set_option maxRecDepth 100000 in
set_option maxHeartbeats 1000000 in
theorem containsI_c {w : World} {sv : Value} {S : List Int} {B : Nat} {a : Option Addr} {m cap : Nat} (hs : Is w sv S) (hn : S.length ≤ 35184372088832) (hB : w.cell? ⟨B, 0, none⟩ = some (.slice a m cap)) :
    Calls Try.prog 42 #[sv, .func (.func 43) #[] #[.pointer (some ⟨B, 0, none⟩)]] w fun e w' => e = .returned (.bool (!decide (∀ i ∈ S, 0 ≤ i ∧ i < (m : Int)))) ∧ w' = w := by
  have IC := Lib.hid (indexI_c hs hn hB)
  generalize (!decide (∀ i ∈ S, 0 ≤ i ∧ i < (m : Int))) = r at *
  clear hB
  go_enter Try.func42, Try.ntmps42
  go_wp2_with fail
  refine IC.out.mono ?_
  rintro e w2 ⟨⟨i, rfl, hi⟩, rfl⟩
  go_wp2_with fail
  go_ret
  exact ⟨rfl, rfl⟩
/-- what stood, as truth values. -/
def seen (S : List Int) : List Value := (List.range 32).map fun (i : Nat) => Value.bool (decide ((i : Int) ∈ S))
theorem seen_nil : seen [] = [.bool false, .bool false, .bool false, .bool false, .bool false, .bool false, .bool false, .bool false, .bool false, .bool false, .bool false, .bool false, .bool false, .bool false, .bool false, .bool false, .bool false, .bool false, .bool false, .bool false, .bool false, .bool false, .bool false, .bool false, .bool false, .bool false, .bool false, .bool false, .bool false, .bool false, .bool false, .bool false] := rfl
theorem seen_at (S : List Int) {n : Nat} (h : n < 32) : (seen S)[n]? = some (.bool (decide ((n : Int) ∈ S))) := by
  unfold seen
  rw [List.getElem?_map, List.getElem?_range h]
  rfl
theorem seen_set (S : List Int) {n : Nat} (h : n < 32) : (seen S).set n (.bool true) = seen (S ++ [(n : Int)]) := by
  refine List.ext_getElem? fun i => ?_
  by_cases c : i < 32
  · rw [seen_at _ c, List.getElem?_set]
    by_cases e : n = i
    · subst e
      rw [if_pos rfl, if_pos (by unfold seen; simpa using h), decide_eq_true (by simp)]
    · rw [if_neg e, seen_at _ c]
      have : ((i : Int) ∈ S ++ [(n : Int)]) ↔ (i : Int) ∈ S := by simp; omega
      rw [decide_eq_decide.2 this]
  · rw [List.getElem?_eq_none (by rw [List.length_set]; unfold seen; simp; omega), List.getElem?_eq_none (by unfold seen; simp; omega)]
set_option maxRecDepth 100000 in
set_option maxHeartbeats 4000000 in
theorem standsTwice_c {w : World} {sv : Value} {S : List Int} {m : Nat} (hs : Is w sv S) (hn : S.length ≤ 35184372088832) (hin : ∀ i ∈ S, 0 ≤ i ∧ i < (m : Int)) (hm : m ≤ 32) :
    Calls Try.prog 44 #[sv] w fun e w' => e = .returned (.bool (!decide S.Nodup)) ∧ Below w.heap.size w w' := by
  have HZ := Lib.hid hs
  have IN := Lib.hid hin
  have B0 := Lib.hid (balloc (brefl w) (.cells #[.bool false, .bool false, .bool false, .bool false, .bool false, .bool false, .bool false, .bool false, .bool false, .bool false, .bool false, .bool false, .bool false, .bool false, .bool false, .bool false, .bool false, .bool false, .bool false, .bool false, .bool false, .bool false, .bool false, .bool false, .bool false, .bool false, .bool false, .bool false, .bool false, .bool false, .bool false, .bool false] 82))
  have N0 : Hid (Blk (w.alloc (.cells #[.bool false, .bool false, .bool false, .bool false, .bool false, .bool false, .bool false, .bool false, .bool false, .bool false, .bool false, .bool false, .bool false, .bool false, .bool false, .bool false, .bool false, .bool false, .bool false, .bool false, .bool false, .bool false, .bool false, .bool false, .bool false, .bool false, .bool false, .bool false, .bool false, .bool false, .bool false, .bool false] 82)) w.heap.size (seen [])) := Lib.hid (by rw [seen_nil]; exact Blk.new' w #[.bool false, .bool false, .bool false, .bool false, .bool false, .bool false, .bool false, .bool false, .bool false, .bool false, .bool false, .bool false, .bool false, .bool false, .bool false, .bool false, .bool false, .bool false, .bool false, .bool false, .bool false, .bool false, .bool false, .bool false, .bool false, .bool false, .bool false, .bool false, .bool false, .bool false, .bool false, .bool false] 82)
  obtain ⟨sa, sc, rfl, p1, p2, _⟩ := hs
  obtain ⟨n, hsn⟩ : ∃ n, S.length = n := ⟨_, rfl⟩
  have HM := Lib.hid hsn
  have AQ : Hid (¬ S.Nodup → (!decide S.Nodup) = true) := Lib.hid fun n => by rw [decide_eq_false n]; rfl
  have AN : Hid (S.Nodup → (!decide S.Nodup) = false) := Lib.hid fun q => by rw [decide_eq_true q]; rfl
  generalize (!decide S.Nodup) = r at *
  rw [hsn] at HZ p1 hn ⊢
  have n0 : (0 : Int) ≤ (n : Int) := by omega
  have n1 : (n : Int) ≤ 35184372088832 := by omega
  have n2 : (n : Int) ≤ (sc : Int) := by omega
  have n3 : (sc : Int) ≤ 9223372036854775807 := by omega
  clear hsn hin
  go_enter Try.func44, Try.ntmps44
  go_upto_region 2 with fail
  generalize w.alloc (.cells #[.bool false, .bool false, .bool false, .bool false, .bool false, .bool false, .bool false, .bool false, .bool false, .bool false, .bool false, .bool false, .bool false, .bool false, .bool false, .bool false, .bool false, .bool false, .bool false, .bool false, .bool false, .bool false, .bool false, .bool false, .bool false, .bool false, .bool false, .bool false, .bool false, .bool false, .bool false, .bool false] 82) = w0 at *
  go_wp2_with fail
  go_loopw [5, 8] (fun _ iv wr => ∃ k : Nat, k ≤ n ∧ iv = .int .i64 (k : Nat) ∧ (S.take k).Nodup ∧ Blk wr w.heap.size (seen (S.take k)) ∧ Below w.heap.size w wr) (fun _ iv _ => n - (intOf iv).toNat)
  case atStart => exact ⟨0, by omega, rfl, by simp, N0.out, B0.out⟩
  case round =>
    obtain ⟨k, hk, rfl, hnd, hbk, hb⟩ := hrel
    rename World => wr
    have HB := Lib.hid hb
    have HK := Lib.hid hbk
    have ND := Lib.hid hnd
    clear hb hbk hnd N0 B0
    by_cases c : k < n
    · have e1 : decide ((k : Int) < (n : Int)) = true := decide_eq_true (by omega)
      have e2 : decide (k < n) = true := decide_eq_true c
      have k1 : (k : Int) < (n : Int) := by omega
      have k0 : (0 : Int) ≤ (k : Int) := by omega
      have wk : IntKind.i64.wrap ((k : Int) + 1) = (k : Int) + 1 := wrap_in (by omega) (by omega)
      obtain ⟨x, hx⟩ : ∃ x, S[k]? = some x := ⟨_, List.getElem?_eq_getElem (by rw [HM.out]; exact c)⟩
      have HX := Lib.hid hx
      obtain ⟨x0, x1⟩ := IN.out x (List.mem_of_getElem? hx)
      obtain ⟨b, off, rfl, y0⟩ := (HZ.out.below HB.out).at hx
      clear hx
      obtain ⟨j, rfl⟩ := Int.eq_ofNat_of_zero_le x0
      have j32 : j < 32 := by omega
      have j33 : (j : Int) < 32 := by omega
      obtain ⟨t0, f0⟩ := HK.out.2 j _ (seen_at _ j32)
      by_cases q : (j : Int) ∈ S.take k
      · rw [decide_eq_true q] at t0
        have NO := Lib.hid (AQ.out fun z => by
          have z2 : (S.take (k + 1)).Nodup := z.sublist (List.take_sublist ..)
          rw [take_more HX.out, List.nodup_append] at z2
          exact z2.2.2 _ q _ (by simp) rfl)
        go_wp2_with fail
        go_ret
        exact ⟨by rw [NO.out]; rfl, HB.out⟩
      · rw [decide_eq_false q] at t0
        have NK := Lib.hid (nodup_more HX.out ND.out (fun y hy e => q (e ▸ hy)))
        have BK : Hid (Blk (wr.setCell ⟨w.heap.size, j, none⟩ (.bool true)) w.heap.size (seen (S.take (k + 1)))) := Lib.hid (by rw [take_more HX.out, ← seen_set _ j32]; exact blk_set HK.out j _)
        have BB := Lib.hid (below_set HB.out (Nat.le_refl w.heap.size) j (.bool true))
        go_wp2_with fail
        exact ⟨⟨k + 1, by omega, by go_num, NK.out, BK.out, BB.out⟩, by simp [intOf]; omega⟩
    · have e1 : decide ((k : Int) < (n : Int)) = false := decide_eq_false (by omega)
      have e2 : decide (k < n) = false := decide_eq_false c
      obtain rfl : k = n := by omega
      have NO := Lib.hid (AN.out (by have := ND.out; rwa [List.take_of_length_le (by rw [HM.out]; exact Nat.le_refl _)] at this))
      go_wp2_with fail
      go_ret
      exact ⟨by rw [NO.out]; rfl, HB.out⟩
theorem chE_bad3 {L : List Cd} {S : List Int} (h : ¬ okL L) : chE L S = 3 := by unfold chE; rw [if_neg h]
theorem chE_bad2 {L : List Cd} {S : List Int} (h : okL L) (q : ¬ ∀ i ∈ S, 0 ≤ i ∧ i < (L.length : Int)) : chE L S = 2 := by unfold chE; rw [if_pos h, if_neg q]
theorem chE_bad7 {L : List Cd} {S : List Int} (h : okL L) (q : ∀ i ∈ S, 0 ≤ i ∧ i < (L.length : Int)) (n : ¬ S.Nodup) : chE L S = 7 := by unfold chE; rw [if_pos h, if_pos q, if_neg n]
theorem chE_good {L : List Cd} {S : List Int} (h : okL L) (q : ∀ i ∈ S, 0 ≤ i ∧ i < (L.length : Int)) (n : S.Nodup) : chE L S = 0 := by unfold chE; rw [if_pos h, if_pos q, if_pos n]
set_option maxRecDepth 100000 in
set_option maxHeartbeats 4000000 in
theorem check_c {w : World} {v sv : Value} {L : List Cd} {S : List Int} (h : Cs w v L) (hs : Is w sv S) (hn : L.length ≤ 8796093022208) (hn2 : S.length ≤ 35184372088832) :
    Calls Try.prog 23 #[v, sv] w fun e w' => e = .returned (.int .i64 (clE L S)) ∧ Below w.heap.size w w' := by
  have B0 := Lib.hid (balloc (brefl w) (.cells #[v] 22))
  have N0 : Hid (Blk (w.alloc (.cells #[v] 22)) w.heap.size [v]) := Lib.hid (Blk.new' w #[v] _)
  have AR := Lib.hid (areRight_c (h.below B0.out) hn)
  have HZ := Lib.hid (hs.below B0.out)
  obtain ⟨a, cap, rfl, c1, c2, _⟩ := h
  obtain ⟨sa, sc, rfl, p1, p2, _⟩ := hs
  obtain ⟨m, hm⟩ : ∃ m, L.length = m := ⟨_, rfl⟩
  obtain ⟨n, hsn⟩ : ∃ n, S.length = n := ⟨_, rfl⟩
  have HM := Lib.hid hm
  have HN := Lib.hid hsn
  by_cases ok : okL L
  · rw [decide_eq_true ok] at AR
    have m32 : m ≤ 32 := hm ▸ ok.2
    have CC := Lib.hid (fun W (b : Below (w.alloc (.cells #[.slice a L.length cap] 22)).heap.size (w.alloc (.cells #[.slice a L.length cap] 22)) W) => containsI_c (HZ.out.below b) hn2 (((N0.out.below b).2 0 _ rfl).1))
    by_cases q : ∀ i ∈ S, 0 ≤ i ∧ i < (L.length : Int)
    · rw [decide_eq_true q] at CC
      have TW := Lib.hid (fun W (b : Below (w.alloc (.cells #[.slice a L.length cap] 22)).heap.size (w.alloc (.cells #[.slice a L.length cap] 22)) W) => standsTwice_c (HZ.out.below b) hn2 (hm ▸ q) m32)
      by_cases nd : S.Nodup
      · rw [decide_eq_true nd] at TW
        have CE : Hid (clE L S = if n = 0 then 5 else 0) := Lib.hid (by
          unfold clE
          rw [if_pos (chE_good ok q nd)]
          by_cases z : S = []
          · rw [if_pos z, if_pos (by rw [← hsn, z]; rfl)]
          · rw [if_neg z, if_neg (fun e => z (List.length_eq_zero_iff.1 (hsn.trans e)))])
        rw [CE.out]
        rw [hm] at N0 B0 AR CC TW c1 hn ⊢
        rw [hsn] at HZ CC TW p1 hn2 ⊢
        have n0 : (0 : Int) ≤ (n : Int) := by omega
        by_cases z : n = 0
        · have dz : ((n : Int) == 0) = true := by rw [beq_iff_eq]; omega
          rw [if_pos z]
          clear ok q nd hm hsn
          subst z
          go_enter Try.func23, Try.ntmps23
          go_upto_region 1 with fail
          generalize w.alloc (.cells #[.slice a m cap] 22) = w0 at *
          have z0 := (N0.out.2 0 _ rfl).1
          go_wp2_with fail
          refine AR.out.mono ?_
          rintro e w1 ⟨rfl, hb⟩
          have B1 := Lib.hid hb
          clear hb AR z0
          go_wp2_with fail
          refine (CC.out _ B1.out).mono ?_
          rintro e w2 ⟨rfl, rfl⟩
          clear CC
          go_wp2_with fail
          refine (TW.out _ B1.out).mono ?_
          rintro e w2 ⟨rfl, hb⟩
          have B2 := Lib.hid (bstep B1.out hb)
          clear hb TW
          go_wp2_with fail
          go_ret
          exact ⟨rfl, bstep B0.out B2.out⟩
        · have dz : ((n : Int) == 0) = false := by rw [beq_eq_false_iff_ne]; omega
          rw [if_neg z]
          clear ok q nd hm hsn
          go_enter Try.func23, Try.ntmps23
          go_upto_region 1 with fail
          generalize w.alloc (.cells #[.slice a m cap] 22) = w0 at *
          have z0 := (N0.out.2 0 _ rfl).1
          go_wp2_with fail
          refine AR.out.mono ?_
          rintro e w1 ⟨rfl, hb⟩
          have B1 := Lib.hid hb
          clear hb AR z0
          go_wp2_with fail
          refine (CC.out _ B1.out).mono ?_
          rintro e w2 ⟨rfl, rfl⟩
          clear CC
          go_wp2_with fail
          refine (TW.out _ B1.out).mono ?_
          rintro e w2 ⟨rfl, hb⟩
          have B2 := Lib.hid (bstep B1.out hb)
          clear hb TW
          go_wp2_with fail
          go_ret
          exact ⟨rfl, bstep B0.out B2.out⟩
      · rw [decide_eq_false nd] at TW
        have CE : Hid (clE L S = 7) := Lib.hid (by unfold clE; rw [chE_bad7 ok q nd]; rfl)
        rw [CE.out]
        rw [hm] at N0 B0 AR CC TW c1 hn ⊢
        rw [hsn] at HZ CC TW p1 hn2 ⊢
        clear ok q nd hm hsn
        go_enter Try.func23, Try.ntmps23
        go_upto_region 1 with fail
        generalize w.alloc (.cells #[.slice a m cap] 22) = w0 at *
        have z0 := (N0.out.2 0 _ rfl).1
        go_wp2_with fail
        refine AR.out.mono ?_
        rintro e w1 ⟨rfl, hb⟩
        have B1 := Lib.hid hb
        clear hb AR z0
        go_wp2_with fail
        refine (CC.out _ B1.out).mono ?_
        rintro e w2 ⟨rfl, rfl⟩
        clear CC
        go_wp2_with fail
        refine (TW.out _ B1.out).mono ?_
        rintro e w2 ⟨rfl, hb⟩
        have B2 := Lib.hid (bstep B1.out hb)
        clear hb TW
        go_wp2_with fail
        go_ret
        exact ⟨rfl, bstep B0.out B2.out⟩
    · rw [decide_eq_false q] at CC
      have CE : Hid (clE L S = 2) := Lib.hid (by unfold clE; rw [chE_bad2 ok q]; rfl)
      rw [CE.out]
      rw [hm] at N0 B0 AR CC c1 hn ⊢
      rw [hsn] at HZ CC p1 hn2 ⊢
      clear ok q hm hsn
      go_enter Try.func23, Try.ntmps23
      go_upto_region 1 with fail
      generalize w.alloc (.cells #[.slice a m cap] 22) = w0 at *
      have z0 := (N0.out.2 0 _ rfl).1
      go_wp2_with fail
      refine AR.out.mono ?_
      rintro e w1 ⟨rfl, hb⟩
      have B1 := Lib.hid hb
      clear hb AR z0
      go_wp2_with fail
      refine (CC.out _ B1.out).mono ?_
      rintro e w2 ⟨rfl, rfl⟩
      clear CC
      go_wp2_with fail
      go_ret
      exact ⟨rfl, bstep B0.out B1.out⟩
  · rw [decide_eq_false ok] at AR
    have CE : Hid (clE L S = 3) := Lib.hid (by unfold clE; rw [chE_bad3 ok]; rfl)
    rw [CE.out]
    rw [hm] at N0 B0 AR c1 hn ⊢
    rw [hsn] at HZ p1 hn2 ⊢
    clear ok hm hsn
    go_enter Try.func23, Try.ntmps23
    go_upto_region 1 with fail
    generalize w.alloc (.cells #[.slice a m cap] 22) = w0 at *
    have z0 := (N0.out.2 0 _ rfl).1
    go_wp2_with fail
    refine AR.out.mono ?_
    rintro e w1 ⟨rfl, hb⟩
    have B1 := Lib.hid hb
    clear hb AR z0
    go_wp2_with fail
    go_ret
    exact ⟨rfl, bstep B0.out B1.out⟩
end Go.Proofs.Ytkmbeogmgehnfaa.Vo
