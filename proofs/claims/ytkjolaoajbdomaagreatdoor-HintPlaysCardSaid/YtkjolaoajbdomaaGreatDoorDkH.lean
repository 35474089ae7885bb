/-
  Rows of strings of the call's own; the contract of disk.Names.
  Conditions: none.
-/
import Derived.Test.YtkjolaoajbdomaaGreatDoorDkG
namespace Go.Proofs.YtkjolaoajbdomaaGreatDoor.Dk
open Go.RowKit Go.ChangeShapes Go.WideShapes Go.ChangeAt Go.Joins Go.Maps Go.Sort By Ct
set_option linter.unusedVariables false
set_option linter.unusedSimpArgs false

/-- strings as cells. -/
def sc (l : List (List UInt8)) : List Value := l.map fun x => .string (st x)
theorem sc_len (l : List (List UInt8)) : (sc l).length = l.length := by simp [sc]
theorem sc_enc (l : List (List UInt8)) : l.map encStr = sc l := rfl
/-- v is a row of strings of the call's own. -/
def OwnS (w : World) (base : Nat) (v : Value) (l : List (List UInt8)) : Prop := w.ownsRow base 9 1 v l.length (sc l)
theorem OwnS.nil (w : World) (base : Nat) : OwnS w base (.slice none 0 0) [] := World.ownsRow_nil w base _ 1
theorem ownS_form {w : World} {base : Nat} {v : Value} {l : List (List UInt8)} (h : OwnS w base v l) : ∃ a cap, v = .slice a l.length cap := by
  rcases h.2 with ⟨hv, h0⟩ | ⟨g, cap, cur, hv, _⟩
  · exact ⟨none, 0, by rw [hv, h0]⟩
  · exact ⟨_, cap, hv⟩
theorem ownS_at {w : World} {base : Nat} {v : Value} {l : List (List UInt8)} (h : OwnS w base v l) (hl : 0 < l.length) : ∃ g cap, v = .slice (some ⟨g, 0, none⟩) l.length cap ∧ base ≤ g ∧ g < w.heap.size ∧ l.length ≤ cap ∧ cap ≤ maxLen ∧ ∀ (i : Nat) (x : List UInt8), l[i]? = some x → w.cell? ⟨g, i, none⟩ = some (.string (st x)) ∧ w.frozen? ⟨g, i, none⟩ = false := by
  rcases h.2 with ⟨hv, h0⟩ | ⟨g, cap, cur, hv, hb, hh, hc, hm, hcs, ht⟩
  · omega
  · subst hv
    refine ⟨g, cap, rfl, hb, (Array.getElem?_eq_some_iff.1 hh).1, hc, hm, fun i x hx => ⟨?_, frozen_of_row w g i cur _ hh⟩⟩
    have hi : i < l.length := (List.getElem?_eq_some_iff.1 hx).1
    have := World.ownsRow.cellAt h i (by omega)
    rw [this]
    simp [sc, hx]
/-- a name is written in its own place. -/
theorem ownS_same {w : World} {base g cap : Nat} {l : List (List UInt8)} (h : OwnS w base (.slice (some ⟨g, 0, none⟩) l.length cap) l) {i : Nat} {x : List UInt8} (hx : l[i]? = some x) : OwnS (w.setCell ⟨g, i, none⟩ (.string (st x))) base (.slice (some ⟨g, 0, none⟩) l.length cap) l := by
  refine ⟨h.1, ?_⟩
  rcases h.2 with ⟨hv, h0⟩ | ⟨g', cap', cur, hv, hb, hh, hc, hm, hcs, ht⟩
  · cases hv
  · simp only [Value.slice.injEq, Option.some.injEq, Addr.mk.injEq, and_true, true_and] at hv
    obtain ⟨rfl, rfl⟩ := hv
    have hi : i < l.length := (List.getElem?_eq_some_iff.1 hx).1
    refine .inr ⟨g, cap, cur.setIfInBounds i (.string (st x)), rfl, hb, heap_setCell_same w g i cur _ _ hh, hc, hm, by simpa using hcs, ?_⟩
    rw [← ht]
    apply List.ext_getElem?
    intro j
    rw [List.getElem?_take, List.getElem?_take]
    split
    · rw [Array.toList_setIfInBounds, List.getElem?_set]
      split
      · rename_i q
        subst q
        have e : (sc l)[i]? = some (.string (st x)) := by simp [sc, hx]
        rw [← ht, List.getElem?_take, if_pos (by omega)] at e
        split
        · exact e.symm
        · rename_i q2
          rw [List.getElem?_eq_none (by omega)] at e
          cases e
      · rfl
    · rfl
theorem keys_c (mb : Option Nat) (W : World) : Calls Tryz.prog 42 #[.map mb] W fun e w' => e = .returned (.func (.func 53) #[] #[.pointer (some ⟨W.heap.size, 0, none⟩)]) ∧ w' = W.alloc (.cells #[.map mb] 55) :=
  callsIn_wide.1 (AnyZ.keys_in keysS Fence.wide 5 trivial rfl mb W)
theorem sorts (m : Nat) : AnyZ.SortsIn Tryz.prog sortedS_ren Fence.wide m :=
  ⟨fun blk off cap ss W hH hblk hsz => callsIn_wide.2 (AnyM.slices_Sort_string sortS blk off cap ss W hH hblk hsz),
   fun p cap W => callsIn_wide.2 (AnyM.slices_Sort_string_none sortS p cap W)⟩
set_option maxHeartbeats 1000000 in
theorem sorted_c {H : Type} (b nn : Nat) (D0 : DataW H) (R : Value → Option (DataW H × List MemPlace)) (w : World) (hown : w.ownsMap Tryz.prog 9 R b nn D0) (hmax : size D0 ≤ maxLen) (hbytes : size D0 * 16 ≤ 140737488355328) :
    Calls Tryz.prog 41 #[.func (.func 53) #[] #[.pointer (some ⟨w.heap.size, 0, none⟩)]] (w.alloc (.cells #[.map (some b)] 55)) fun e w' => ∃ (v : Value) (ss : List (List UInt8)), e = .returned v ∧ ss.Perm (strKeys D0) ∧
      w'.ownsRow (w.alloc (.cells #[.map (some b)] 55)).heap.size 9 1 v ss.length ((ss.mergeSort (fun x y => decide (x ≤ y))).map encStr) ∧ (v = .slice none 0 0 ↔ ss = []) ∧ Below (w.alloc (.cells #[.map (some b)] 55)).heap.size (w.alloc (.cells #[.map (some b)] 55)) w' := by
  have hbl := hown.lt
  have hseq : SeqGives Fence.wide 2 Tryz.prog 53 #[.pointer (some ⟨w.heap.size, 0, none⟩)] encStr (fun ss => ss.Perm (strKeys D0)) (size D0) (w.alloc (.cells #[.map (some b)] 55)) :=
    AnyZ.keys_gives (ρ := keysS_ren) { keysS with } Fence.wide _ trivial rfl (by omega) w.heap.size b nn D0 _ (by simp) (by simp) (by
      obtain ⟨es, clock, hb, Ft, hs, hD⟩ := hown
      exact ⟨es, clock, (Below.heap_alloc _ _ b hbl).trans hb, Ft, hs, hD⟩)
  exact callsIn_wide.1 (AnyZ.sorted_in sortedS Fence.wide 5 trivial trivial trivial trivial rfl (by omega) (sorts _) (enters_of Tryz.func52 (by kernel_rfl) rfl) 53 #[.pointer (some ⟨w.heap.size, 0, none⟩)] trivial (enters_of Tryz.func53 (by kernel_rfl) rfl) _ _ hmax hbytes _ hseq)
set_option maxHeartbeats 1000000 in
theorem sorted_nil (w : World) :
    Calls Tryz.prog 41 #[.func (.func 53) #[] #[.pointer (some ⟨w.heap.size, 0, none⟩)]] (w.alloc (.cells #[.map none] 55)) fun e w' => ∃ (v : Value) (ss : List (List UInt8)), e = .returned v ∧ ss = [] ∧
      w'.ownsRow (w.alloc (.cells #[.map none] 55)).heap.size 9 1 v ss.length ((ss.mergeSort (fun x y => decide (x ≤ y))).map encStr) ∧ (v = .slice none 0 0 ↔ ss = []) ∧ Below (w.alloc (.cells #[.map none] 55)).heap.size (w.alloc (.cells #[.map none] 55)) w' := by
  have hseq : SeqGives Fence.wide 2 Tryz.prog 53 #[.pointer (some ⟨w.heap.size, 0, none⟩)] encStr (fun ss : List (List UInt8) => ss = []) 0 (w.alloc (.cells #[.map none] 55)) :=
    AnyZ.keys_gives_nil (ρ := keysS_ren) { keysS with } Fence.wide _ trivial rfl w.heap.size _ (by simp) (by simp)
  exact callsIn_wide.1 (AnyZ.sorted_in sortedS Fence.wide 5 trivial trivial trivial trivial rfl (by omega) (sorts _) (enters_of Tryz.func52 (by kernel_rfl) rfl) 53 #[.pointer (some ⟨w.heap.size, 0, none⟩)] trivial (enters_of Tryz.func53 (by kernel_rfl) rfl) _ 0 (Nat.zero_le _) (by omega) _ hseq)
/-- the names of the files, sorted, of the map. -/
theorem sortedF_c {w : World} {d : Nat} {X : Nat → Prop} {mv : Option Nat} {l : List (List UInt8 × List Nat)} (h : Pf w d X mv l) (hn : (l.map (·.1)).Nodup) (hl : l.length ≤ 100000) :
    Calls Tryz.prog 41 #[.func (.func 53) #[] #[.pointer (some ⟨w.heap.size, 0, none⟩)]] (w.alloc (.cells #[.map mv] 55)) fun e w' => ∃ v, e = .returned v ∧ OwnS w' w.heap.size v ((l.map (·.1)).mergeSort leB) ∧ Below w.heap.size w w' := by
  have bz : (w.alloc (.cells #[.map mv] 55)).heap.size = w.heap.size + 1 := by simp
  cases mv with
  | none =>
    have e : l = [] := h
    subst e
    refine (sorted_nil w).mono ?_
    rintro e w' ⟨v, ss, rfl, rfl, ho, _, hb⟩
    refine ⟨v, rfl, ?_, (balloc (brefl w) _).trans (hb.mono (by omega))⟩
    have q := row_le (base' := w.heap.size) ho (by omega)
    rw [List.mergeSort_nil] at q
    show OwnS w' w.heap.size v (([] : List (List UInt8)).mergeSort leB)
    rw [List.mergeSort_nil]
    exact q
  | some b =>
    obtain ⟨_, _, D, n, hm, mf⟩ := h
    have hs := mapF_size mf hm hn
    refine (sorted_c b n D RV w hm (by rw [hs]; unfold maxLen; omega) (by rw [hs]; omega)).mono ?_
    rintro e w' ⟨v, ss, rfl, hp, ho, _, hb⟩
    refine ⟨v, rfl, ?_, (balloc (brefl w) _).trans (hb.mono (by omega))⟩
    have e : ss.mergeSort (fun x y => decide (x ≤ y)) = (l.map (·.1)).mergeSort leB := mergeSort_of_perm (hp.trans (mapF_keys mf hm hn).symm)
    have e2 : ss.length = ((l.map (·.1)).mergeSort leB).length := by rw [← e, List.length_mergeSort]
    rw [e, e2] at ho
    exact row_le ho (by omega)
theorem names_len (s : Dk) : (names s).length ≤ s.fs.length := by
  unfold names
  split
  · simp
  · rw [List.length_mergeSort, List.length_map]; exact Nat.le_refl _
theorem names_ok {s : Dk} (h : Wf s) : ∀ n ∈ names s, okN n = true ∧ n ∈ s.fs.map (·.1) := by
  intro n hn
  unfold names at hn
  split at hn
  · cases hn
  · have := (List.mergeSort_perm (s.fs.map (·.1)) leB).mem_iff.1 hn
    refine ⟨?_, this⟩
    obtain ⟨p, hp, rfl⟩ := List.mem_map.1 this
    exact h.name p hp
set_option maxRecDepth 100000 in
theorem Names_nil (w : World) : Calls Tryz.prog 20 #[.pointer none] w fun e w' => e = .returned (.slice none 0 0) ∧ w' = w := by
  go_enter Tryz.func20, Tryz.ntmps20
  go_wp2_with fail
  go_ret
  exact ⟨rfl, rfl⟩
set_option maxRecDepth 100000 in
set_option maxHeartbeats 16000000 in
theorem Names_c {w : World} {d : Nat} {s : Dk} {X : Nat → Prop} (h : Pm w d s X) (hl : s.fs.length ≤ 90000) :
    Calls Tryz.prog 20 #[.pointer (some ⟨d, 0, none⟩)] w fun e w' => ∃ v, e = .returned v ∧ OwnS w' w.heap.size v (names s) ∧ Below w.heap.size w w' := by
  obtain ⟨W0, _, _, mv, o, c, a, k, hb, hp, hf⟩ := h
  have c0 := (hb.2 0 _ rfl).1
  have c1 := (hb.2 1 _ rfl).1
  obtain ⟨rfl, _⟩ := hp
  cases ho : s.out with
  | true =>
    rw [ho] at c1
    have E : Hid (names s = []) := Lib.hid (by unfold names; rw [if_pos ho])
    clear hb hf c0 ho W0
    go_enter Tryz.func20, Tryz.ntmps20
    go_wp2_with fail
    go_ret
    exact ⟨_, rfl, by rw [E.out]; exact OwnS.nil _ _, brefl w⟩
  | false =>
    rw [ho] at c1
    have E : Hid ((s.fs.map (·.1)).mergeSort leB = names s) := Lib.hid (by unfold names; rw [if_neg (by rw [ho]; decide)])
    have KC := Lib.hid (keys_c mv w)
    have SC := Lib.hid (sortedF_c hf W0.nodup (by omega))
    rw [E.out] at SC
    have NL := Lib.hid (names_len s)
    have NO := Lib.hid (names_ok W0)
    have HL := Lib.hid hl
    clear hb hf ho E W0 hl
    go_enter Tryz.func20, Tryz.ntmps20
    go_wp2_with fail
    refine KC.out.mono ?_
    rintro e w' ⟨rfl, rfl⟩
    go_wp2_with fail
    refine SC.out.mono ?_
    rintro e w2 ⟨v, rfl, ov, hb2⟩
    have OV := Lib.hid ov
    have B2 := Lib.hid hb2
    obtain ⟨va, vc, rfl⟩ := ownS_form ov
    obtain ⟨m, hm⟩ : ∃ m, (names s).length = m := ⟨_, rfl⟩
    have HM := Lib.hid hm
    have m1 : (m : Int) ≤ 90000 := by have := NL.out; have := HL.out; omega
    have m0 : (0 : Int) ≤ (m : Int) := by omega
    rw [hm]
    clear KC SC ov hb2 c0 c1 hm
    go_upto_region 5 with fail
    go_loopw [23] (fun iv wr => ∃ i : Nat, i ≤ m ∧ iv = .int .i64 (i : Nat) ∧ OwnS wr w.heap.size (.slice va m vc) (names s) ∧ Below w.heap.size w wr) (fun iv _ => m - (intOf iv).toNat)
    case atStart => exact ⟨0, Nat.zero_le _, rfl, by rw [← HM.out]; exact OV.out, B2.out⟩
    case round =>
      obtain ⟨i, hi, rfl, ho, hb⟩ := hrel
      rename World => wr
      have HO := Lib.hid ho
      have HB := Lib.hid hb
      clear ho hb
      by_cases c : i < m
      · have e1 : decide ((i : Int) < (m : Int)) = true := decide_eq_true (by omega)
        have i1 : (i : Int) < (m : Int) := by omega
        have i0 : (0 : Int) ≤ (i : Int) := by omega
        obtain ⟨x, hx⟩ : ∃ x, (names s)[i]? = some x := ⟨_, List.getElem?_eq_getElem (by rw [HM.out]; exact c)⟩
        have HX := Lib.hid hx
        obtain ⟨g, cap, e, hg, hgl, hc, hcm, hK⟩ := ownS_at HO.out (by rw [HM.out]; omega)
        rw [HM.out] at e hc
        cases e
        obtain ⟨cx, fx⟩ := hK i x hx
        have m2 : (m : Int) ≤ (vc : Int) := by omega
        have m3 : (vc : Int) ≤ 9223372036854775807 := by unfold maxLen at hcm; omega
        have CL := Lib.hid (sClone_c (st x) wr (by
          have := (okN_le (NO.out x (List.mem_of_getElem? hx)).1).2
          show x.toArray.size ≤ _
          rw [List.size_toArray]; omega))
        have HG := Lib.hid hg
        have HGL := Lib.hid hgl
        clear hK hx hg hgl hc hcm
        go_upto_region 7 with fail
        clear cx fx
        go_wp2_with fail
        refine CL.out.mono ?_
        rintro e w3 ⟨rfl, hb3⟩
        have O3 := Lib.hid (row_below HO.out hb3 : OwnS w3 w.heap.size _ (names s))
        have B3 := Lib.hid (bstep HB.out hb3)
        clear hb3 CL
        obtain ⟨g', cap', e', _, _, _, _, hK⟩ := ownS_at O3.out (by rw [HM.out]; omega)
        rw [HM.out] at e'
        cases e'
        obtain ⟨cx, fx⟩ := hK i x HX.out
        clear hK
        have O4 : Hid (OwnS (w3.setCell ⟨g, i, none⟩ (.string (st x))) w.heap.size (.slice (some ⟨g, 0, none⟩) m vc) (names s)) := Lib.hid (by
          have := O3.out
          rw [← HM.out] at this ⊢
          exact ownS_same this HX.out)
        go_wp2_with fail
        exact ⟨⟨i + 1, by omega, by go_num, O4.out, below_set B3.out HG.out _ _⟩, by simp [intOf]; omega⟩
      · have e1 : decide ((i : Int) < (m : Int)) = false := decide_eq_false (by omega)
        go_wp2_with fail
        go_ret
        exact ⟨_, rfl, HO.out, HB.out⟩
end Go.Proofs.YtkjolaoajbdomaaGreatDoor.Dk
