/-
  The document's disk: Names.
  Conditions: none.
-/
import Derived.Test.YtkjolaoajbdomaaGreatDoorDkO
import Derived.Test.YtkjolaoajbdomaaGreatDoorDkH
import Derived.Sort.Walk0
namespace Go.Proofs.YtkjolaoajbdomaaGreatDoor.Dk
open Go.RowKit Go.ChangeShapes Go.WideShapes Go.ChangeAt Go.Joins Go.Maps Go.Sort By Ct
set_option linter.unusedVariables false
set_option linter.unusedSimpArgs false

theorem ls_lt_iff {x y : List UInt8} : x < y ↔ ¬ y ≤ x := List.not_le.symm
theorem ls_ne {x y : List UInt8} (h : x ≤ y) (hn : x ≠ y) : x < y := by
  rw [ls_lt_iff]
  exact fun q => hn (List.le_antisymm h q)
/-- Go's '>' of names. -/
theorem gtb (x y : List UInt8) : (!(Op.bytesLess x y || x == y)) = decide (y < x) := by
  rw [bytesLess_eq]
  by_cases h : y < x
  · rw [decide_eq_true h]
    have h1 : ¬ x < y := fun q => (ls_lt_iff.1 h) (List.le_of_lt q)
    have h2 : x ≠ y := fun q => by subst q; exact List.lt_irrefl _ h
    simp [h1, h2]
  · rw [decide_eq_false h]
    by_cases e : x = y
    · simp [e]
    · have : x < y := ls_ne (List.not_lt.1 h) e
      simp [this]
/-- how far the search for the next name has come. -/
def Nx (l : List (List UInt8)) (last : List UInt8) (i : Nat) (nx : List UInt8) : Prop :=
  (nx = [] ∧ ∀ (j : Nat) n, j < i → l[j]? = some n → ¬ last < n) ∨ (nx ∈ l ∧ last < nx ∧ ∀ (j : Nat) n, j < i → l[j]? = some n → last < n → nx ≤ n)
theorem nx_step {l : List (List UInt8)} {last nx n : List UInt8} {i : Nat} (h : Nx l last i nx) (hn : l[i]? = some n) (h0 : ∀ n ∈ l, n ≠ []) :
    Nx l last (i + 1) (if last < n ∧ (nx = [] ∨ n < nx) then n else nx) := by
  have hm : n ∈ l := List.mem_of_getElem? hn
  by_cases c : last < n ∧ (nx = [] ∨ n < nx)
  · rw [if_pos c]
    refine .inr ⟨hm, c.1, fun j x hj hx hl => ?_⟩
    by_cases q : j = i
    · subst q
      rw [hn] at hx
      cases hx
      exact List.le_refl _
    · rcases h with ⟨rfl, h2⟩ | ⟨h1, h2, h3⟩
      · exact absurd hl (h2 j x (by omega) hx)
      · rcases c.2 with c2 | c2
        · exact absurd c2 (h0 nx h1)
        · exact List.le_trans (List.le_of_lt c2) (h3 j x (by omega) hx hl)
  · rw [if_neg c]
    rcases h with ⟨rfl, h2⟩ | ⟨h1, h2, h3⟩
    · refine .inl ⟨rfl, fun j x hj hx => ?_⟩
      by_cases q : j = i
      · subst q
        rw [hn] at hx
        cases hx
        exact fun z => c ⟨z, .inl rfl⟩
      · exact h2 j x (by omega) hx
    · refine .inr ⟨h1, h2, fun j x hj hx hl => ?_⟩
      by_cases q : j = i
      · subst q
        rw [hn] at hx
        cases hx
        exact List.not_lt.1 (fun z => c ⟨hl, .inr z⟩)
      · exact h3 j x (by omega) hx hl
theorem sorted_lt {l : List (List UInt8)} (hd : l.Nodup) : (l.mergeSort leB).Pairwise (fun a b => a < b) := by
  have tr : ∀ a b c : List UInt8, leB a b = true → leB b c = true → leB a c = true := fun a b c h1 h2 => by simp only [leB, decide_eq_true_eq] at *; exact List.le_trans h1 h2
  have tot : ∀ a b : List UInt8, (leB a b || leB b a) = true := fun a b => by simp only [leB, Bool.or_eq_true, decide_eq_true_eq]; exact List.le_total a b
  have hs := List.pairwise_mergeSort tr tot l
  have hn : (l.mergeSort leB).Nodup := (List.mergeSort_perm l leB).nodup_iff.2 hd
  refine (hs.and hn).imp fun {a b} h => ls_ne (by simpa [leB] using h.1) h.2
/-- behind the whole search: the next name of the sorted ones. -/
theorem nx_end {l : List (List UInt8)} (hd : l.Nodup) {k : Nat} {last nx x : List UInt8} (h : Nx l last l.length nx) (hx : (l.mergeSort leB)[k]? = some x) (hl : (k = 0 ∧ last = [] ∧ x ≠ []) ∨ ∃ j, k = j + 1 ∧ (l.mergeSort leB)[j]? = some last) : nx = x := by
  have hs := sorted_lt hd
  have hp := List.mergeSort_perm l leB
  have hxm : x ∈ l := hp.mem_iff.1 (List.mem_of_getElem? hx)
  have lx : last < x := by
    rcases hl with ⟨_, rfl, h2⟩ | ⟨j, rfl, hj⟩
    · cases x with
      | nil => exact absurd rfl h2
      | cons a b => exact List.nil_lt_cons _ _
    · obtain ⟨p1, rfl⟩ := List.getElem?_eq_some_iff.1 hj
      obtain ⟨p2, rfl⟩ := List.getElem?_eq_some_iff.1 hx
      exact List.pairwise_iff_getElem.1 hs j (j + 1) p1 p2 (by omega)
  obtain ⟨ix, hix, ex⟩ := List.mem_iff_getElem.1 hxm
  have mn : ∀ n ∈ l, last < n → x ≤ n := fun n hn hln => by
    obtain ⟨i, hi, rfl⟩ := List.mem_iff_getElem.1 (hp.mem_iff.2 hn)
    obtain ⟨p2, e2⟩ := List.getElem?_eq_some_iff.1 hx
    rcases Nat.lt_trichotomy i k with q | q | q
    · exfalso
      rcases hl with ⟨h1, _, _⟩ | ⟨j, rfl, hj⟩
      · omega
      · obtain ⟨p1, e1⟩ := List.getElem?_eq_some_iff.1 hj
        by_cases z : i = j
        · subst z
          rw [e1] at hln
          exact List.lt_irrefl _ hln
        · have := List.pairwise_iff_getElem.1 hs i j hi p1 (by omega)
          rw [e1] at this
          exact (ls_lt_iff.1 this) (List.le_of_lt hln)
    · subst q
      rw [e2]
      exact List.le_refl _
    · have := List.pairwise_iff_getElem.1 hs k i p2 hi q
      rw [e2] at this
      exact List.le_of_lt this
  rcases h with ⟨rfl, h2⟩ | ⟨h1, h2, h3⟩
  · exact absurd lx (h2 ix x hix (by rw [List.getElem?_eq_getElem hix, ex]))
  · exact List.le_antisymm (h3 ix x hix (by rw [List.getElem?_eq_getElem hix, ex]) lx) (mn nx h1 h2)
theorem info_str : (Tryz.prog.info? 9).map (fun i => (i.zero, i.size, i.bytes)) = some (some (.string ⟨#[]⟩), 1, 16) := by kernel_rfl
theorem sc_app (l k : List (List UInt8)) : sc (l ++ k) = sc l ++ sc k := by simp [sc]
/-- one string more. -/
theorem appSt {w : World} {base : Nat} {v : Value} {l : List (List UInt8)} (h : OwnS w base v l) (x : List UInt8) (hb : base ≤ w.heap.size) (hn : (l.length + 1) * 16 ≤ 140737488355328) (ty : TypeId) :
    ∃ v' w', (Builtin.append_ #[46, 46] ty #[v, .slice (some ⟨w.heap.size, 0, none⟩) 1 1]).run Tryz.prog (w.alloc (.cells #[.string (st x)] 9)) = .ok v' w' ∧ OwnS w' base v' (l ++ [x]) ∧ Below base w w' ∧ w.heap.size ≤ w'.heap.size ∧ Gr w v w' v' := by
  obtain ⟨i, hi, hz, hs, hby⟩ := info3 info_str
  obtain ⟨v', w', hr, ho, hg, _, hob⟩ := run_append_own_at (P := Tryz.prog) (w.alloc (.cells #[.string (st x)] 9)) base 46 ty 9 i (.string ⟨#[]⟩) 1 16 Tryz.underlying46 hi hz hs hby rfl (by decide) v l.length (sc l) (World.ownsRow.alloc h _) ⟨w.heap.size, 0, none⟩ 1 1 (sc [x]) rfl
    (by intro j u hj; cases j with | zero => (simp [sc] at hj; subst hj; simp [Addr.add, go_sem]) | succ j => simp [sc] at hj) (fun u hu => by simp [sc] at hu; subst hu; rfl) (by unfold maxLen; omega) (by omega) (by simp; omega)
  have hB : Below base w (w.alloc (.cells #[.string (st x)] 9)) := (Below.refl base w).alloc hb _
  have hB2 := hB.grown hg (by simp; omega) (fun k hk => (h.lt k hk).1)
  refine ⟨v', w', hr, ?_, hB2, hB2.size, (gr_of hg hob).ahead (balloc (brefl w) _)⟩
  unfold OwnS
  rw [sc_app, List.length_append]
  exact ho
set_option maxRecDepth 100000 in
set_option maxHeartbeats 16000000 in
theorem rNames_c {w : World} {d : Nat} {s : Dk} {X : Nat → Prop} (h : Rm w d s X) (hl : s.fs.length ≤ 90000) :
    Calls Tryz.prog 21 #[.pointer (some ⟨d, 0, none⟩)] w fun e w' => ∃ v, e = .returned v ∧ OwnS w' w.heap.size v (names s) ∧ Below w.heap.size w w' := by
  obtain ⟨fv, hb, hg, _⟩ := h.apart
  have W0 := h.1
  have HB := Lib.hid hb
  cases ho : s.out with
  | true =>
    have c1 := (hb.2 1 _ rfl).1
    rw [ho] at c1
    have E : Hid (names s = []) := Lib.hid (by unfold names; rw [if_pos ho])
    clear hb hg ho W0 h HB
    go_enter Tryz.func21, Tryz.ntmps21
    go_upto_region 3 with fail
    go_loopw [3, 4] (fun ov lv wr => ov = .slice none 0 0 ∧ lv = .string ⟨#[]⟩ ∧ wr = w) (fun _ _ _ => 0)
    case atStart => exact ⟨rfl, rfl, rfl⟩
    case round =>
      obtain ⟨rfl, rfl, rfl⟩ := hrel
      go_wp2_with fail
      go_ret
      exact ⟨_, rfl, by rw [E.out]; exact OwnS.nil _ _, brefl _⟩
  | false =>
    obtain ⟨a, cap, rfl⟩ := ownG_form hg
    have EN : Hid (names s = (s.fs.map (·.1)).mergeSort leB) := Lib.hid (by unfold names; rw [if_neg (by rw [ho]; decide)])
    obtain ⟨l, hll⟩ : ∃ l, s.fs.map (·.1) = l := ⟨_, rfl⟩
    have ND : Hid l.Nodup := Lib.hid (by rw [← hll]; exact W0.nodup)
    have N0 : Hid (∀ n ∈ l, n ≠ []) := Lib.hid (fun n hn => by
      rw [← hll] at hn
      obtain ⟨p, hp, rfl⟩ := List.mem_map.1 hn
      intro q
      have := (okN_le (W0.name p hp)).1
      rw [q] at this
      simp at this)
    rw [hll] at EN
    have AT : Hid (∀ (j : Nat) x, s.fs[j]? = some x → l[j]? = some x.1) := Lib.hid (fun j x hx => by rw [← hll, List.getElem?_map, hx]; rfl)
    obtain ⟨m, hm⟩ : ∃ m, s.fs.length = m := ⟨_, rfl⟩
    have LM : Hid (l.length = m) := Lib.hid (by rw [← hll, List.length_map, hm])
    have HM := Lib.hid hm
    have HG := Lib.hid hg
    have HO := Lib.hid ho
    have SL : Hid ((l.mergeSort leB).length = m) := Lib.hid (by rw [List.length_mergeSort]; exact LM.out)
    rw [hm] at hl HB
    rw [ho] at HB
    have m1 : (m : Int) ≤ 90000 := by omega
    have m0 : (0 : Int) ≤ (m : Int) := by omega
    clear hb hg ho W0 h hll hm
    go_enter Tryz.func21, Tryz.ntmps21
    go_upto_region 3 with fail
    go_loopw [3, 4] (fun ov lv wr => ∃ (k : Nat) (last : List UInt8), k ≤ m ∧ lv = .string (st last) ∧ OwnS wr w.heap.size ov ((l.mergeSort leB).take k) ∧ ((k = 0 ∧ last = []) ∨ ∃ j, k = j + 1 ∧ (l.mergeSort leB)[j]? = some last) ∧ Below w.heap.size w wr) (fun ov _ _ => m - By.sl ov)
    case atStart => exact ⟨0, [], Nat.zero_le _, rfl, OwnS.nil _ _, .inl ⟨rfl, rfl⟩, brefl w⟩
    case round =>
      obtain ⟨k, last, hk, rfl, hov, hla, hbw⟩ := hrel
      rename World => wr
      have OV := Lib.hid hov
      have LA := Lib.hid hla
      have BW := Lib.hid hbw
      have c0 := ((HB.out.below hbw).2 0 _ rfl).1
      have c1 := ((HB.out.below hbw).2 1 _ rfl).1
      obtain ⟨oa, oc, rfl⟩ := ownS_form hov
      have lt : ((l.mergeSort leB).take k).length = k := by rw [List.length_take, SL.out]; omega
      rw [lt] at OV ⊢
      have LT := Lib.hid lt
      clear hov hla hbw lt
      by_cases c : k < m
      · have e1 : decide ((k : Int) < (m : Int)) = true := decide_eq_true (by omega)
        go_upto_region 6 with fail
        go_loopw [5, 6] (fun nv iv wz => ∃ (i : Nat) (nx : List UInt8), i ≤ m ∧ iv = .int .i64 (i : Nat) ∧ nv = .string (st nx) ∧ Nx l last i nx ∧ wz = wr) (fun _ iv _ => m - (intOf iv).toNat)
        case atStart => exact ⟨0, [], Nat.zero_le _, rfl, rfl, .inl ⟨rfl, fun j n h => absurd h (Nat.not_lt_zero _)⟩, rfl⟩
        case round =>
          obtain ⟨i, nx, hi, rfl, rfl, hnx, rfl⟩ := hrel
          have HN := Lib.hid hnx
          clear hnx
          by_cases c2 : i < m
          · have e2 : decide ((i : Int) < (m : Int)) = true := decide_eq_true (by omega)
            have i1 : (i : Int) < (m : Int) := by omega
            have i0 : (0 : Int) ≤ (i : Int) := by omega
            obtain ⟨p, hp⟩ : ∃ p, s.fs[i]? = some p := ⟨_, List.getElem?_eq_getElem (by rw [HM.out]; exact c2)⟩
            obtain ⟨g, rfl, _, hc, hcm, cx, _⟩ := ownG_at (row_below HG.out BW.out : OwnG _ 0 _ s.fs) hp
            rw [HM.out] at hc
            have m2 : (m : Int) ≤ (cap : Int) := by omega
            have m3 : (cap : Int) ≤ 9223372036854775807 := by unfold maxLen at hcm; omega
            have HS := Lib.hid (nx_step HN.out (AT.out i p hp) N0.out)
            obtain ⟨x, pd⟩ := p
            simp only at cx HS
            clear hp hc hcm
            by_cases d1 : last < x
            · have g1 : Op.bytesLess (st x).toList (st last).toList = false := by rw [st_toList, st_toList, bytesLess_eq]; exact decide_eq_false (fun q => (ls_lt_iff.1 d1) (List.le_of_lt q))
              have g2 : ((st x).toList == (st last).toList) = false := by rw [st_toList, st_toList]; simp only [beq_eq_false_iff_ne, ne_eq]; exact fun q => by subst q; exact List.lt_irrefl _ d1
              by_cases d2 : nx = []
              · have g3 : ((st nx).toList == []) = true := by rw [st_toList, d2]; rfl
                have D : Hid (last < x ∧ (nx = [] ∨ x < nx)) := Lib.hid ⟨d1, .inl d2⟩
                clear d1 d2
                have NN : Hid (Nx l last (i + 1) x) := Lib.hid (by have := HS.out; rwa [if_pos (D.out)] at this)
                clear HS
                go_wp2_with fail
                exact ⟨⟨i + 1, x, by omega, by go_num, rfl, NN.out, trivial⟩, by simp [intOf]; omega⟩
              · have g3 : ((st nx).toList == []) = false := by rw [st_toList]; simpa using d2
                by_cases d3 : x < nx
                · have g4 : Op.bytesLess (st x).toList (st nx).toList = true := by rw [st_toList, st_toList, bytesLess_eq]; exact decide_eq_true d3
                  have D : Hid (last < x ∧ (nx = [] ∨ x < nx)) := Lib.hid ⟨d1, .inr d3⟩
                  clear d1 d2 d3
                  have NN : Hid (Nx l last (i + 1) x) := Lib.hid (by have := HS.out; rwa [if_pos (D.out)] at this)
                  clear HS
                  go_wp2_with fail
                  exact ⟨⟨i + 1, x, by omega, by go_num, rfl, NN.out, trivial⟩, by simp [intOf]; omega⟩
                · have g4 : Op.bytesLess (st x).toList (st nx).toList = false := by rw [st_toList, st_toList, bytesLess_eq]; exact decide_eq_false d3
                  have D : Hid (¬ (last < x ∧ (nx = [] ∨ x < nx))) := Lib.hid (fun q => q.2.elim d2 d3)
                  clear d1 d2 d3
                  have NN : Hid (Nx l last (i + 1) nx) := Lib.hid (by have := HS.out; rwa [if_neg (D.out)] at this)
                  clear HS
                  go_wp2_with fail
                  exact ⟨⟨i + 1, nx, by omega, by go_num, rfl, NN.out, trivial⟩, by simp [intOf]; omega⟩
            · have D : Hid (¬ (last < x ∧ (nx = [] ∨ x < nx))) := Lib.hid (fun q => d1 q.1)
              by_cases d2 : x < last
              · have g1 : Op.bytesLess (st x).toList (st last).toList = true := by rw [st_toList, st_toList, bytesLess_eq]; exact decide_eq_true d2
                clear d1 d2
                have NN : Hid (Nx l last (i + 1) nx) := Lib.hid (by have := HS.out; rwa [if_neg (D.out)] at this)
                clear HS
                go_wp2_with fail
                exact ⟨⟨i + 1, nx, by omega, by go_num, rfl, NN.out, trivial⟩, by simp [intOf]; omega⟩
              · have g1 : Op.bytesLess (st x).toList (st last).toList = false := by rw [st_toList, st_toList, bytesLess_eq]; exact decide_eq_false d2
                have g2 : ((st x).toList == (st last).toList) = true := by rw [st_toList, st_toList, List.le_antisymm (List.not_lt.1 d1) (List.not_lt.1 d2)]; simp
                clear d1 d2
                have NN : Hid (Nx l last (i + 1) nx) := Lib.hid (by have := HS.out; rwa [if_neg (D.out)] at this)
                clear HS
                go_wp2_with fail
                exact ⟨⟨i + 1, nx, by omega, by go_num, rfl, NN.out, trivial⟩, by simp [intOf]; omega⟩
          · have e2 : decide ((i : Int) < (m : Int)) = false := decide_eq_false (by omega)
            obtain rfl : i = m := by omega
            obtain ⟨y, hy⟩ : ∃ y, (l.mergeSort leB)[k]? = some y := ⟨_, List.getElem?_eq_getElem (by rw [SL.out]; exact c)⟩
            have hym : y ∈ l := (List.mergeSort_perm l leB).mem_iff.1 (List.mem_of_getElem? hy)
            have EX : nx = y := nx_end ND.out (by rw [LM.out]; exact HN.out) hy (LA.out.imp (fun q => ⟨q.1, q.2, N0.out y hym⟩) id)
            subst EX
            have HY := Lib.hid hy
            obtain ⟨v2, w2, r2, o2, b2, s2, _⟩ := appSt OV.out nx BW.out.size (by rw [LT.out]; omega) 46
            have O2 : Hid (OwnS w2 w.heap.size v2 ((l.mergeSort leB).take (k + 1))) := Lib.hid (by rw [List.take_add_one, hy]; exact o2)
            have B2 := Lib.hid (BW.out.trans b2)
            obtain ⟨va, vc, e⟩ := ownS_form O2.out
            have L2 : ((l.mergeSort leB).take (k + 1)).length = k + 1 := by rw [List.length_take, SL.out]; omega
            rw [L2] at e
            subst e
            clear o2 b2 s2 hy hym HN L2
            go_wp2_with (first | (at_builtin; refine wpList_append_eq rfl _ _ 46 rfl _ _ _ w2 rfl rfl r2 ?_))
            exact ⟨⟨k + 1, nx, by omega, rfl, O2.out, .inr ⟨k, rfl, HY.out⟩, B2.out⟩, by simp [By.sl]; omega⟩
      · have e1 : decide ((k : Int) < (m : Int)) = false := decide_eq_false (by omega)
        obtain rfl : k = m := by omega
        have O2 : Hid (OwnS wr w.heap.size (.slice oa k oc) (names s)) := Lib.hid (by have := OV.out; rwa [← SL.out, List.take_length, SL.out, ← EN.out] at this)
        clear OV
        go_wp2_with fail
        go_ret
        exact ⟨_, rfl, O2.out, BW.out⟩
end Go.Proofs.YtkjolaoajbdomaaGreatDoor.Dk
