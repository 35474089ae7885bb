/-
  The program's ends that are held enough, and its Hull.
  Conditions: none but that the spans lie in memory.
-/
import Derived.Test.YtppflfodkhhfhaaHuH
import Derived.Test.YtppflfodkhhfhaaHuC
namespace Go.Proofs.Ytppflfodkhhfhaa.Hu
open Go.RowKit Go.ChangeShapes Go.WideShapes Go.ChangeAt Go.Joins Fl
set_option linter.unusedVariables false
set_option linter.unusedSimpArgs false

/-- the beginnings (the ends) that are held enough, of the first k. -/
def loL (L : List Sn) (q : Int) (k : Nat) : List Int := ((L.take k).filter fun s => decide (q ≤ (cnt L s.lo : Nat))).map Sn.lo
def hiL (L : List Sn) (q : Int) (k : Nat) : List Int := ((L.take k).filter fun s => decide (q ≤ (cnt L s.hi : Nat))).map Sn.hi
theorem loL_len (L : List Sn) (q : Int) (k : Nat) : (loL L q k).length ≤ k := by
  unfold loL
  rw [List.length_map]
  exact Nat.le_trans (List.length_filter_le _ _) (by rw [List.length_take]; omega)
theorem hiL_len (L : List Sn) (q : Int) (k : Nat) : (hiL L q k).length ≤ k := by
  unfold hiL
  rw [List.length_map]
  exact Nat.le_trans (List.length_filter_le _ _) (by rw [List.length_take]; omega)
theorem loL_yes {L : List Sn} {q : Int} {k : Nat} {x : Sn} (h : L[k]? = some x) (c : q ≤ (cnt L x.lo : Nat)) : loL L q (k + 1) = loL L q k ++ [x.lo] := by
  unfold loL
  rw [take_snoc h, List.filter_append, List.filter_cons_of_pos (by simpa using c), List.map_append]
  rfl
theorem loL_no {L : List Sn} {q : Int} {k : Nat} {x : Sn} (h : L[k]? = some x) (c : ¬ q ≤ (cnt L x.lo : Nat)) : loL L q (k + 1) = loL L q k := by
  unfold loL
  rw [take_snoc h, List.filter_append, List.filter_cons_of_neg (by simpa using c), List.filter_nil, List.append_nil]
theorem hiL_yes {L : List Sn} {q : Int} {k : Nat} {x : Sn} (h : L[k]? = some x) (c : q ≤ (cnt L x.hi : Nat)) : hiL L q (k + 1) = hiL L q k ++ [x.hi] := by
  unfold hiL
  rw [take_snoc h, List.filter_append, List.filter_cons_of_pos (by simpa using c), List.map_append]
  rfl
theorem hiL_no {L : List Sn} {q : Int} {k : Nat} {x : Sn} (h : L[k]? = some x) (c : ¬ q ≤ (cnt L x.hi : Nat)) : hiL L q (k + 1) = hiL L q k := by
  unfold hiL
  rw [take_snoc h, List.filter_append, List.filter_cons_of_neg (by simpa using c), List.filter_nil, List.append_nil]
theorem loL_mem {L : List Sn} {q : Int} {x : Int} : x ∈ loL L q L.length ↔ ∃ s ∈ L, q ≤ (cnt L s.lo : Nat) ∧ s.lo = x := by
  unfold loL
  rw [List.take_length]
  simp [and_assoc]
theorem hiL_mem {L : List Sn} {q : Int} {x : Int} : x ∈ hiL L q L.length ↔ ∃ s ∈ L, q ≤ (cnt L s.hi : Nat) ∧ s.hi = x := by
  unfold hiL
  rw [List.take_length]
  simp [and_assoc]
/-- no row's block is the other's. -/
def Ap (v v' : Value) : Prop := ∀ k, v.ownBlock = some k → v'.ownBlock ≠ some k
theorem Ap.nil : Ap (.slice none 0 0) (.slice none 0 0) := fun k h => by simp [Value.ownBlock] at h
theorem blk_keep {w w' : World} {b : Nat} {l : List Value} (h : Blk w b l) (k : w'.heap[b]? = w.heap[b]?) : Blk w' b l := by
  refine ⟨?_, fun i x hx => ?_⟩
  · have := (Array.getElem?_eq_some_iff.1 (k.trans (Array.getElem?_eq_getElem h.1))).1
    exact this
  · obtain ⟨h1, h2⟩ := h.2 i x hx
    unfold World.cell? World.frozen? at *
    rw [k]
    exact ⟨h1, h2⟩
set_option maxRecDepth 100000 in
set_option maxHeartbeats 4000000 in
theorem ends_c {w : World} {v : Value} {L : List Sn} (h : Hs w v L) (hn : L.length ≤ 8796093022208) (q : Int) :
    Calls Try.prog 15 #[v, .int .i64 q] w fun e w' => (∃ lv hv, e = .returned (.tuple #[lv, hv]) ∧ Is w' lv (loL L q L.length) ∧ Is w' hv (hiL L q L.length)) ∧ Below w.heap.size w w' := by
  have HS := Lib.hid h
  have CN := Lib.hid (fun w' (b : Below w.heap.size w w') t => holders_c (h.below b) hn t)
  obtain ⟨a, cap, rfl, c1, c2, _⟩ := h
  obtain ⟨m, hm⟩ : ∃ m, L.length = m := ⟨_, rfl⟩
  have HM := Lib.hid hm
  rw [hm] at HS CN c1 hn ⊢
  have m0 : (0 : Int) ≤ (m : Int) := by omega
  have m1 : (m : Int) ≤ 8796093022208 := by omega
  have m2 : (m : Int) ≤ (cap : Int) := by omega
  have m3 : (cap : Int) ≤ 9223372036854775807 := by omega
  clear hm
  go_enter Try.func15, Try.ntmps15
  go_wp2_with fail
  go_loopw [4, 5, 10] (fun lv hv iv wr => ∃ k : Nat, k ≤ m ∧ iv = .int .i64 (k : Nat) ∧ OwnT wr w.heap.size lv (loL L q k) ∧ OwnT wr w.heap.size hv (hiL L q k) ∧ Ap lv hv ∧ Below w.heap.size w wr) (fun _ _ iv _ => m - (intOf iv).toNat)
  case atStart => exact ⟨0, by omega, rfl, OwnT.nil _ _, OwnT.nil _ _, Ap.nil, brefl w⟩
  case round =>
    obtain ⟨k, hk, rfl, hlo, hhi, hap, hb⟩ := hrel
    rename World => wr
    have HL := Lib.hid hlo
    have HH := Lib.hid hhi
    have HA := Lib.hid hap
    have HB := Lib.hid hb
    clear hlo hhi hap hb
    by_cases c : k < m
    · have e1 : decide ((k : Int) < (m : Int)) = true := decide_eq_true (by omega)
      have e2 : decide (k < m) = true := decide_eq_true c
      have k1 : (k : Int) < (m : Int) := by omega
      have wk : IntKind.i64.wrap ((k : Int) + 1) = (k : Int) + 1 := wrap_in (by omega) (by omega)
      obtain ⟨x, hx⟩ : ∃ x, L[k]? = some x := ⟨_, List.getElem?_eq_getElem (by rw [HM.out]; exact c)⟩
      have HX := Lib.hid hx
      have ll := loL_len L q k
      have lh := hiL_len L q k
      obtain ⟨b, off, rfl, y0, y1⟩ := (HS.out.below HB.out).at hx
      have LY := Lib.hid (loL_yes (q := q) hx)
      have LN := Lib.hid (loL_no (q := q) hx)
      have HY := Lib.hid (hiL_yes (q := q) hx)
      have HN := Lib.hid (hiL_no (q := q) hx)
      have C0 := Lib.hid (fun w' b' => CN.out w' b' x.lo)
      have C1 := Lib.hid (fun w' b' => CN.out w' b' x.hi)
      generalize cnt L x.lo = n0 at *
      generalize cnt L x.hi = n1 at *
      obtain ⟨xl, xh⟩ := x
      simp only at y0 y1 C0 C1 LY LN HY HN
      have NX := Lib.hid (new2 wr xl xh 25)
      have BA := Lib.hid (balloc HB.out (.cells #[.int .i64 xl, .int .i64 xh] 25))
      have LA := Lib.hid (HL.out.below (balloc (brefl wr) (.cells #[.int .i64 xl, .int .i64 xh] 25)))
      have HHA := Lib.hid (HH.out.below (balloc (brefl wr) (.cells #[.int .i64 xl, .int .i64 xh] 25)))
      obtain ⟨nb, hnb⟩ : ∃ b, wr.heap.size = b := ⟨_, rfl⟩
      rw [hnb] at NX
      have FR : Hid (∀ z l, OwnT wr w.heap.size z l → ∀ j, z.ownBlock = some j → j ≠ nb) := Lib.hid fun z l o j hj => by have := o.block j hj; omega
      have FL := Lib.hid (FR.out _ _ HL.out)
      have FH := Lib.hid (FR.out _ _ HH.out)
      have wnb := Lib.hid (show w.heap.size ≤ nb from hnb ▸ HB.out.size)
      clear hx FR
      go_upto_region 4 with fail
      clear hnb
      generalize wr.alloc (.cells #[.int .i64 xl, .int .i64 xh] 25) = wa at *
      clear y0 y1 HL HH HB
      obtain ⟨z0, z1⟩ := blk2 NX.out (brefl wa)
      obtain ⟨la, lc, rfl⟩ := LA.out.form
      obtain ⟨ha, hc, rfl⟩ := HHA.out.form
      go_wp2_with fail
      refine (C0.out _ BA.out).mono ?_
      rintro e w3 ⟨rfl, hh⟩
      have B3 := Lib.hid (bstep BA.out hh)
      have N3 := Lib.hid (NX.out.below hh)
      have L3 := Lib.hid (LA.out.below hh)
      have H3 := Lib.hid (HHA.out.below hh)
      clear hh z0 z1 BA NX LA HHA C0
      by_cases c0 : q ≤ (n0 : Int)
      · have d0 := decide_eq_true c0
        obtain ⟨lv, w4, r4, o4, b4, k4, s4⟩ := appT L3.out xl B3.out.size (by omega) 46
        rw [← LY.out c0] at o4
        have R4 := Lib.hid r4
        have O4 := Lib.hid o4
        have B4 : Hid (Below w.heap.size w w4) := Lib.hid (B3.out.trans b4)
        have H4 := Lib.hid (H3.out.keep (w' := w4) fun j hj ho => k4 j hj (fun e => HA.out j e ho))
        have N4 : Hid (Blk w4 nb [.int .i64 xl, .int .i64 xh]) := Lib.hid (blk_keep N3.out (k4 nb N3.out.1 (fun e => FL.out nb e rfl)))
        have A4 : Hid (Ap lv (.slice ha (hiL L q k).length hc)) := Lib.hid fun j hj ho => by
          rcases s4 j hj with e | e
          · exact HA.out j e ho
          · have := (H3.out.block j ho).2
            omega
        obtain ⟨z0, z1⟩ := blk2 N3.out (brefl w3)
        clear r4 o4 b4 k4 s4 HA L3 H3 N3 B3 FL
        go_upto_region 6 with (first | (at_builtin; refine wpList_append_eqL rfl _ _ 46 rfl _ _ lv w4 rfl rfl R4.out ?_))
        clear R4 z0 z1
        obtain ⟨z0, z1⟩ := blk2 N4.out (brefl w4)
        go_wp2_with fail
        refine (C1.out _ B4.out).mono ?_
        rintro e w5 ⟨rfl, hh⟩
        have B5 := Lib.hid (bstep B4.out hh)
        have N5 := Lib.hid (N4.out.below hh)
        have L5 := Lib.hid (O4.out.below hh)
        have H5 := Lib.hid (H4.out.below hh)
        clear hh z0 z1 B4 N4 O4 H4 C1
        by_cases c1' : q ≤ (n1 : Int)
        · have d1 := decide_eq_true c1'
          obtain ⟨hv, w6, r6, o6, b6, k6, s6⟩ := appT H5.out xh B5.out.size (by omega) 46
          rw [← HY.out c1'] at o6
          have R6 := Lib.hid r6
          have O6 := Lib.hid o6
          have B6 : Hid (Below w.heap.size w w6) := Lib.hid (B5.out.trans b6)
          have L6 := Lib.hid (L5.out.keep (w' := w6) fun j hj ho => k6 j hj (fun e => A4.out j ho e))
          have A6 : Hid (Ap lv hv) := Lib.hid fun j hj ho => by
            rcases s6 j ho with e | e
            · exact A4.out j hj e
            · have := (L5.out.block j hj).2
              omega
          obtain ⟨z0, z1⟩ := blk2 N5.out (brefl w5)
          clear r6 o6 b6 k6 s6 A4 L5 H5 N5 B5
          go_wp2_with (first | (at_builtin; refine wpList_append_eqL rfl _ _ 46 rfl _ _ hv w6 rfl rfl R6.out ?_))
          exact ⟨⟨k + 1, by omega, by go_num, L6.out, O6.out, A6.out, B6.out⟩, by simp [intOf]; omega⟩
        · have d1 := decide_eq_false c1'
          have O6 : Hid (OwnT w5 w.heap.size (.slice ha (hiL L q k).length hc) (hiL L q (k + 1))) := Lib.hid (by rw [HN.out (Int.not_le.1 c1')]; exact H5.out)
          go_wp2_with fail
          exact ⟨⟨k + 1, by omega, by go_num, L5.out, O6.out, A4.out, B5.out⟩, by simp [intOf]; omega⟩
      · have d0 := decide_eq_false c0
        have O4 : Hid (OwnT w3 w.heap.size (.slice la (loL L q k).length lc) (loL L q (k + 1))) := Lib.hid (by rw [LN.out (Int.not_le.1 c0)]; exact L3.out)
        have B4 := B3
        have H4 := H3
        have N4 := N3
        have A4 := HA
        go_upto_region 6 with fail
        clear HA L3 H3 N3 B3 FL
        obtain ⟨z0, z1⟩ := blk2 N4.out (brefl w3)
        go_wp2_with fail
        refine (C1.out _ B4.out).mono ?_
        rintro e w5 ⟨rfl, hh⟩
        have B5 := Lib.hid (bstep B4.out hh)
        have N5 := Lib.hid (N4.out.below hh)
        have L5 := Lib.hid (O4.out.below hh)
        have H5 := Lib.hid (H4.out.below hh)
        clear hh z0 z1 B4 N4 O4 H4 C1
        by_cases c1' : q ≤ (n1 : Int)
        · have d1 := decide_eq_true c1'
          obtain ⟨hv, w6, r6, o6, b6, k6, s6⟩ := appT H5.out xh B5.out.size (by omega) 46
          rw [← HY.out c1'] at o6
          have R6 := Lib.hid r6
          have O6 := Lib.hid o6
          have B6 : Hid (Below w.heap.size w w6) := Lib.hid (B5.out.trans b6)
          have L6 := Lib.hid (L5.out.keep (w' := w6) fun j hj ho => k6 j hj (fun e => A4.out j ho e))
          have A6 : Hid (Ap (.slice la (loL L q k).length lc) hv) := Lib.hid fun j hj ho => by
            rcases s6 j ho with e | e
            · exact A4.out j hj e
            · have := (L5.out.block j hj).2
              omega
          obtain ⟨z0, z1⟩ := blk2 N5.out (brefl w5)
          clear r6 o6 b6 k6 s6 A4 L5 H5 N5 B5
          go_wp2_with (first | (at_builtin; refine wpList_append_eqL rfl _ _ 46 rfl _ _ hv w6 rfl rfl R6.out ?_))
          exact ⟨⟨k + 1, by omega, by go_num, L6.out, O6.out, A6.out, B6.out⟩, by simp [intOf]; omega⟩
        · have d1 := decide_eq_false c1'
          have O6 : Hid (OwnT w5 w.heap.size (.slice ha (hiL L q k).length hc) (hiL L q (k + 1))) := Lib.hid (by rw [HN.out (Int.not_le.1 c1')]; exact H5.out)
          go_wp2_with fail
          exact ⟨⟨k + 1, by omega, by go_num, L5.out, O6.out, A4.out, B5.out⟩, by simp [intOf]; omega⟩
    · have e1 : decide ((k : Int) < (m : Int)) = false := decide_eq_false (by omega)
      have e2 : decide (k < m) = false := decide_eq_false c
      obtain rfl : k = m := by omega
      have FI := Lib.hid HL.out.is
      have FJ := Lib.hid HH.out.is
      go_wp2_with fail
      go_ret2
      exact ⟨⟨_, _, rfl, FI.out, FJ.out⟩, HB.out⟩
end Go.Proofs.Ytppflfodkhhfhaa.Hu
