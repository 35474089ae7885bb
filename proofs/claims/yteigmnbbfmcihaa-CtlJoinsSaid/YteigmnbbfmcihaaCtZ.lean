/-
  The contract of the document's Join.
  Conditions: none.
-/
import Derived.Test.YteigmnbbfmcihaaCtX
import Derived.Deep.RegionHeld3
import Derived.BigRegion
import Derived.BigQuiet
import Derived.Deep.CutRange
namespace Go.Proofs.Yteigmnbbfmcihaa.Ct
open Go.RowKit Go.ChangeShapes Go.WideShapes Go.ChangeAt Go.Joins By
set_option linter.unusedVariables false
set_option linter.unusedSimpArgs false

/-- a frame that the document's search finds. -/
def hit (n u : Nat) (f : Fr) : Bool := decide (f.off = (n : Int)) && (decide (u = 0) || decide (0 < f.off))
/-- how far the search has come: nv is the place of what was found among the first i, or -1. -/
def Sr (L : List Fr) (n u i : Nat) (nv : Int) : Prop := (nv = -1 ∧ ∀ j a, j < i → L[j]? = some a → hit n u a = false) ∨ ∃ j a, j < i ∧ nv = (j : Int) ∧ L[j]? = some a ∧ hit n u a = true
theorem sr_yes {L : List Fr} {n u i : Nat} {nv : Int} {a : Fr} (ha : L[i]? = some a) (hh : hit n u a = true) : Sr L n u (i + 1) (i : Int) := .inr ⟨i, a, by omega, rfl, ha, hh⟩
theorem sr_no {L : List Fr} {n u i : Nat} {nv : Int} {a : Fr} (h : Sr L n u i nv) (ha : L[i]? = some a) (hh : hit n u a = false) : Sr L n u (i + 1) nv := by
  rcases h with ⟨h1, h2⟩ | ⟨j, b, h1, h2, h3, h4⟩
  · refine .inl ⟨h1, fun j b hj hb => ?_⟩
    by_cases c : j = i
    · subst c
      rw [ha] at hb; cases hb; exact hh
    · exact h2 j b (by omega) hb
  · exact .inr ⟨j, b, by omega, h2, h3, h4⟩
theorem rj_end {L : List Fr} {n k : Nat} {out : List Nat} (hn : n = out.length) (hk : k < L.length) (h : ∀ j a, j < L.length → L[j]? = some a → hit n k a = false) : rj L (L.length - k) out = none := by
  obtain ⟨r, hr⟩ : ∃ r, L.length - k = r + 1 := ⟨L.length - k - 1, by omega⟩
  rw [hr, rj]
  have : L.find? (fun f => decide (f.off = (out.length : Int)) && (decide (r + 1 = L.length) || decide (0 < f.off))) = none := by
    refine List.find?_eq_none.2 fun f hf => ?_
    obtain ⟨j, hj, e⟩ := List.mem_iff_getElem.1 hf
    have := h j f hj (by rw [List.getElem?_eq_getElem hj, e])
    unfold hit at this
    rw [hn] at this
    rw [show decide (r + 1 = L.length) = decide (k = 0) from decide_eq_decide.2 (by omega), this]
    decide
  rw [this]
theorem rj_go {L : List Fr} {n k j : Nat} {out : List Nat} {a : Fr} (hn : n = out.length) (hk : k < L.length) (hd : (L.map (·.off)).Nodup) (ha : L[j]? = some a) (h : hit n k a = true) :
    rj L (L.length - k) out = if a.more = decide (k + 1 < L.length) ∧ (a.dat ≠ [] ∨ k + 1 = L.length) then rj L (L.length - (k + 1)) (out ++ a.dat) else none := by
  obtain ⟨r, hr⟩ : ∃ r, L.length - k = r + 1 := ⟨L.length - k - 1, by omega⟩
  rw [hr, rj]
  have hh : ∀ f : Fr, (decide (f.off = (out.length : Int)) && (decide (r + 1 = L.length) || decide (0 < f.off))) = hit n k f := fun f => by
    unfold hit
    rw [hn, show decide (r + 1 = L.length) = decide (k = 0) from decide_eq_decide.2 (by omega)]
  have : L.find? (fun f => decide (f.off = (out.length : Int)) && (decide (r + 1 = L.length) || decide (0 < f.off))) = some a := by
    cases q : L.find? (fun f => decide (f.off = (out.length : Int)) && (decide (r + 1 = L.length) || decide (0 < f.off))) with
    | none =>
      have := List.find?_eq_none.1 q a (List.mem_of_getElem? ha)
      rw [hh a, h] at this
      exact absurd rfl this
    | some x =>
      have h1 := List.find?_some q
      have h2 := List.mem_of_find?_eq_some q
      rw [hh x] at h1
      obtain ⟨i, hi, e⟩ := List.mem_iff_getElem.1 h2
      obtain ⟨hj, e2⟩ := List.getElem?_eq_some_iff.1 ha
      have o1 : x.off = (n : Int) := by unfold hit at h1; simp only [Bool.and_eq_true, decide_eq_true_eq] at h1; exact h1.1
      have o2 : a.off = (n : Int) := by unfold hit at h; simp only [Bool.and_eq_true, decide_eq_true_eq] at h; exact h.1
      have : i = j := by
        rcases Nat.lt_trichotomy i j with q | q | q
        · have := List.pairwise_iff_getElem.1 hd i j (by simpa using hi) (by simpa using hj) q
          simp only [List.getElem_map, e, e2] at this
          exact absurd (o1.trans o2.symm) this
        · exact q
        · have := List.pairwise_iff_getElem.1 hd j i (by simpa using hj) (by simpa using hi) q
          simp only [List.getElem_map, e, e2] at this
          exact absurd (o2.trans o1.symm) this
      subst this
      rw [← e, ← e2]
  rw [this]
  simp only
  rw [show decide (0 < r) = decide (k + 1 < L.length) from decide_eq_decide.2 (by omega), show L.length - (k + 1) = r by omega]
  have e : (a.dat ≠ [] ∨ r = 0) ↔ (a.dat ≠ [] ∨ k + 1 = L.length) := ⟨fun q => q.imp id (fun z => by omega), fun q => q.imp id (fun z => by omega)⟩
  by_cases c : a.more = decide (k + 1 < L.length) ∧ (a.dat ≠ [] ∨ r = 0)
  · rw [if_pos c, if_pos ⟨c.1, e.1 c.2⟩]
  · rw [if_neg c, if_neg (fun z => c ⟨z.1, e.2 z.2⟩)]
theorem nd_of {L : List Fr} (h : ∀ i j a b, i < L.length → j < i → L[i]? = some a → L[j]? = some b → a.off ≠ b.off) : (L.map (·.off)).Nodup := by
  refine List.pairwise_iff_getElem.2 fun i j hi hj q e => ?_
  simp only [List.length_map] at hi hj
  simp only [List.getElem_map] at e
  exact h j i _ _ hj q (List.getElem?_eq_getElem hj) (List.getElem?_eq_getElem hi) e.symm
theorem dup_of {L : List Fr} {i j : Nat} {a b : Fr} (hj : j < i) (ha : L[i]? = some a) (hb : L[j]? = some b) (e : a.off = b.off) : ¬ (L.map (·.off)).Nodup := by
  intro h
  obtain ⟨p1, rfl⟩ := List.getElem?_eq_some_iff.1 ha
  obtain ⟨p2, rfl⟩ := List.getElem?_eq_some_iff.1 hb
  have := List.pairwise_iff_getElem.1 h j i (by simpa using p2) (by simpa using p1) hj
  simp only [List.getElem_map] at this
  exact this e.symm
theorem range_below {w w' : World} {b o : Nat} {cs : List Value} (h : w.rangeAt b o cs) (hb : b < w.heap.size) (q : Below w.heap.size w w') : w'.rangeAt b o cs := fun i v hi => (q.cell (p := ⟨b, o + i, none⟩) hb).trans (h i v hi)
/-- what is answered where the walk ends early. -/
theorem jE_none {L : List Fr} (sh : shp L = true) (h : (L.map (·.off)).Nodup) (q : rj L L.length [] = none) : jE L = 5 ∧ jD L = [] := by
  have e : jE L = 5 := by
    have z : (jr L).isSome = false := by
      unfold jr
      by_cases c : L = []
      · rw [if_pos c]; rfl
      · rw [if_neg c, q]; rfl
    unfold jE
    rw [if_pos sh, if_pos h, z]; rfl
  exact ⟨e, by unfold jD; rw [e]; rfl⟩
theorem jE_some {L : List Fr} {out : List Nat} (sh : shp L = true) (h : (L.map (·.off)).Nodup) (hl : L ≠ []) (q : rj L L.length [] = some out) : jE L = 0 ∧ jD L = out := by
  have j : jr L = some out := by unfold jr; rw [if_neg hl, q]
  have e : jE L = 0 := by unfold jE; rw [if_pos sh, if_pos h, j]; rfl
  exact ⟨e, by unfold jD; rw [e, j]; rfl⟩
theorem jE_nil : jE [] = 5 ∧ jD [] = [] := by decide
set_option maxRecDepth 100000 in
set_option maxHeartbeats 16000000 in
theorem rJoin_any {w : World} {v : Value} {L : List (Fr × Value)} (F : Fl w v L) (hn : L.length ≤ 1000) : Calls Try.prog 17 #[v] w fun e w' => PJoin (L.map Prod.fst) w e w' := by
  obtain ⟨a, cap, rfl⟩ := F.form
  have HF := Lib.hid F
  have HF0 := Lib.hid F
  have hcap : L.length ≤ cap ∧ cap ≤ 9223372036854775807 := by obtain ⟨_, _, e, h, h', _⟩ := F; cases e; exact ⟨h, h'⟩
  obtain ⟨m, hm⟩ : ∃ m, L.length = m := ⟨_, rfl⟩
  have HM := Lib.hid hm
  have HL : Hid ((L.map Prod.fst).length = m) := Lib.hid (by rw [List.length_map, hm])
  rw [hm] at hcap hn HF ⊢
  have m0 : (0 : Int) ≤ (m : Int) := by omega
  have m1 : (m : Int) ≤ 1000 := by omega
  have m2 : (m : Int) ≤ (cap : Int) := by omega
  have m3 : (cap : Int) ≤ 9223372036854775807 := by omega
  obtain ⟨fs, hfs⟩ : ∃ fs, L.map Prod.fst = fs := ⟨_, rfl⟩
  have HFS := Lib.hid hfs
  rw [hfs] at HL ⊢
  clear F hcap hm hfs
  go_enter Try.func17, Try.ntmps17
  go_upto_region 1 with fail
  go_upto_region 2 with fail
  go_loopw [4] (fun iv wr => ∃ k : Nat, k ≤ m ∧ iv = .int .i64 (k : Nat) ∧ (∀ x ∈ fs.take k, okFr x = true ∧ like x (fs.headD fr0) = true) ∧ Below w.heap.size w wr) (fun iv _ => m - (intOf iv).toNat)
  case atStart => exact ⟨0, Nat.zero_le _, rfl, fun x h => (by cases h), brefl w⟩
  case round =>
    obtain ⟨k, hk, rfl, hall, hb⟩ := hrel
    rename World => wr
    have HB := Lib.hid hb
    have HA := Lib.hid hall
    clear hb hall
    by_cases c : k < m
    · have e1 : decide ((k : Int) < (m : Int)) = true := decide_eq_true (by omega)
      have k1 : (k : Int) < (m : Int) := by omega
      have z1 : (0 : Int) < (m : Int) := by omega
      have z2 : 0 < m := by omega
      have z3 : ¬ m = 0 := by omega
      obtain ⟨x, hx⟩ : ∃ x, L[k]? = some x := ⟨_, List.getElem?_eq_getElem (by rw [HM.out]; exact c)⟩
      obtain ⟨y, hy⟩ : ∃ y, L[0]? = some y := ⟨_, List.getElem?_eq_getElem (by rw [HM.out]; omega)⟩
      have F2 := HF.out.below HB.out
      rw [← HM.out] at F2
      obtain ⟨b, off, rfl, hbb, rg, hS⟩ := F2.at hx
      obtain ⟨b', off', e', _, rh, hT⟩ := F2.at hy
      cases e'
      have hfx : fs[k]? = some x.1 := by rw [← HFS.out, List.getElem?_map, hx]; rfl
      have hfy : fs.headD fr0 = y.1 := by rw [← HFS.out]; cases L with | nil => simp at hy | cons p q => simp at hy; rw [← hy]; rfl
      obtain ⟨f, fv⟩ := x
      obtain ⟨hf, hv⟩ := y
      simp only at rg hS hfx rh hT hfy
      obtain ⟨fa, fc, ef⟩ := hS.form
      obtain ⟨ha, hc, eh⟩ := hT.form
      subst ef eh
      have KF : Hid (∀ w', Below wr.heap.size wr w' → w'.rangeAt b (off + k * 10) (fvs f (.slice fa f.dat.length fc))) := Lib.hid fun w' q => range_below rg hbb q
      rw [Nat.zero_mul, Nat.add_zero] at rh
      have KH : Hid (∀ w', Below wr.heap.size wr w' → w'.rangeAt b off (fvs hf (.slice ha hf.dat.length hc))) := Lib.hid fun w' q => range_below rh hbb q
      have HX := Lib.hid hfx
      have HY := Lib.hid hfy
      have hdl : f.dat.length ≤ 140737488351232 := hS.1
      have IS := Lib.hid (fun z => Is_c f fa fc hdl z)
      have LK := Lib.hid (fun z => Like_c f hf fa ha fc hc z)
      clear rg rh F2 hS hT hx hy hfx hfy hdl hbb
      go_upto_region 4 with fail
      cases c1 : okFr f with
      | false =>
        have HSH := Lib.hid (jE_shp (L := fs) (by
          cases q : shp fs with
          | false => rfl
          | true => exact absurd (shp_mem q f (List.mem_of_getElem? HX.out)).1 (by rw [c1]; decide)))
        rw [c1] at IS
        refine wp_region_held_drew (S := fun w' => Below wr.heap.size wr w') (by kernel_rfl) ((brefl wr).drew) (fun hHeld => ?_)
        refine wpAnyH_take (i := 0) (v := ?_) rfl (by kernel_rfl) (by kernel_rfl) (by kernel_rfl) (fun _ _ _ h => h) (Or.inl ⟨by rfl, ?_⟩) hHeld ?_
        rotate_left
        · ((intro w _; go_simp); try with_reducible rfl)
        (try simp only [List.getElem_toArray, List.getElem_cons_succ, List.getElem_cons_zero, Act.put, List.setIfInBounds_toArray, List.set_cons_zero, List.set_cons_succ])
        refine wpAnyH_take (i := 1) (v := ?_) rfl (by kernel_rfl) (by kernel_rfl) (by kernel_rfl) (fun _ _ _ h => h) (Or.inl ⟨by rfl, ?_⟩) hHeld ?_
        rotate_left
        · ((intro w _; go_simp); try with_reducible rfl)
        (try simp only [List.getElem_toArray, List.getElem_cons_succ, List.getElem_cons_zero, Act.put, List.setIfInBounds_toArray, List.set_cons_zero, List.set_cons_succ])
        refine wpAnyH_take (i := 2) (v := ?_) rfl (by kernel_rfl) (by kernel_rfl) (by kernel_rfl) (fun _ _ _ h => h) (Or.inl ⟨by rfl, ?_⟩) hHeld ?_
        rotate_left
        · ((intro w _; go_simp); try with_reducible rfl)
        (try simp only [List.getElem_toArray, List.getElem_cons_succ, List.getElem_cons_zero, Act.put, List.setIfInBounds_toArray, List.set_cons_zero, List.set_cons_succ])
        refine wpAnyH_take (i := 3) rfl (by kernel_rfl) (by kernel_rfl) (by kernel_rfl) (fun _ _ _ h => h) (yieldsIf_load_mid (by rfl) 24 _ rfl _ _ rfl (fvs f (.slice fa f.dat.length fc)) _ (fun w h => KF.out w h) Try.underlying24 rfl (by exact info_fr)) hHeld ?_
        (try simp only [List.getElem_toArray, List.getElem_cons_succ, List.getElem_cons_zero, Act.put, List.setIfInBounds_toArray, List.set_cons_zero, List.set_cons_succ])
        refine wpAnyH_ready (rs := [4]) (by kernel_rfl) (by simp) (AllReadyH.cons rfl (fun KQ hKQ => ?_) AllReadyH.nil)
        go_simp
        refine (IS.out _).mono ?_
        rintro e w' ⟨rfl, hb⟩
        replace hHeld := bstep hHeld hb
        clear hb
        go_wp2_with fail
        refine hKQ.out _ _ hHeld (fun hH2 => ?_)
        clear hKQ KQ hHeld
        have hHeld := hH2
        clear hH2
        (try simp only [List.getElem_toArray, List.getElem_cons_succ, List.getElem_cons_zero, Act.put, List.setIfInBounds_toArray, List.set_cons_zero, List.set_cons_succ])
        refine wpAnyH_take (i := 5) (v := ?_) rfl (by kernel_rfl) (by kernel_rfl) (by kernel_rfl) (fun _ _ _ h => h) (Or.inl ⟨by rfl, ?_⟩) hHeld ?_
        rotate_left
        · ((intro w _; go_simp); try with_reducible rfl)
        (try simp only [List.getElem_toArray, List.getElem_cons_succ, List.getElem_cons_zero, Act.put, List.setIfInBounds_toArray, List.set_cons_zero, List.set_cons_succ])
        refine wpAnyH_take (i := 6) (v := ?_) rfl (by kernel_rfl) (by kernel_rfl) (by kernel_rfl) (fun _ _ _ h => h) (Or.inl ⟨by rfl, ?_⟩) hHeld ?_
        rotate_left
        · ((intro w _; go_simp); try with_reducible rfl)
        (try simp only [List.getElem_toArray, List.getElem_cons_succ, List.getElem_cons_zero, Act.put, List.setIfInBounds_toArray, List.set_cons_zero, List.set_cons_succ])
        refine wpAnyH_take (i := 7) (v := undef) rfl (by kernel_rfl) (by kernel_rfl) (by kernel_rfl) (fun _ _ _ h => h) (Or.inr ⟨by rfl, rfl⟩) hHeld ?_
        (try simp only [List.getElem_toArray, List.getElem_cons_succ, List.getElem_cons_zero, Act.put, List.setIfInBounds_toArray, List.set_cons_zero, List.set_cons_succ])
        refine wpAnyH_take (i := 8) (v := undef) rfl (by kernel_rfl) (by kernel_rfl) (by kernel_rfl) (fun _ _ _ h => h) (Or.inr ⟨by rfl, rfl⟩) hHeld ?_
        (try simp only [List.getElem_toArray, List.getElem_cons_succ, List.getElem_cons_zero, Act.put, List.setIfInBounds_toArray, List.set_cons_zero, List.set_cons_succ])
        refine wpAnyH_take (i := 9) (v := undef) rfl (by kernel_rfl) (by kernel_rfl) (by kernel_rfl) (fun _ _ _ h => h) (Or.inr ⟨by rfl, rfl⟩) hHeld ?_
        (try simp only [List.getElem_toArray, List.getElem_cons_succ, List.getElem_cons_zero, Act.put, List.setIfInBounds_toArray, List.set_cons_zero, List.set_cons_succ])
        refine wpAnyH_take (i := 10) (v := undef) rfl (by kernel_rfl) (by kernel_rfl) (by kernel_rfl) (fun _ _ _ h => h) (Or.inr ⟨by rfl, rfl⟩) hHeld ?_
        (try simp only [List.getElem_toArray, List.getElem_cons_succ, List.getElem_cons_zero, Act.put, List.setIfInBounds_toArray, List.set_cons_zero, List.set_cons_succ])
        refine wpAnyH_take (i := 11) (v := undef) rfl (by kernel_rfl) (by kernel_rfl) (by kernel_rfl) (fun _ _ _ h => h) (Or.inr ⟨by rfl, rfl⟩) hHeld ?_
        (try simp only [List.getElem_toArray, List.getElem_cons_succ, List.getElem_cons_zero, Act.put, List.setIfInBounds_toArray, List.set_cons_zero, List.set_cons_succ])
        refine wpAnyH_take (i := 12) (v := undef) rfl (by kernel_rfl) (by kernel_rfl) (by kernel_rfl) (fun _ _ _ h => h) (Or.inr ⟨by rfl, rfl⟩) hHeld ?_
        (try simp only [List.getElem_toArray, List.getElem_cons_succ, List.getElem_cons_zero, Act.put, List.setIfInBounds_toArray, List.set_cons_zero, List.set_cons_succ])
        refine wpAnyH_take (i := 13) (v := undef) rfl (by kernel_rfl) (by kernel_rfl) (by kernel_rfl) (fun _ _ _ h => h) (Or.inr ⟨by rfl, rfl⟩) hHeld ?_
        (try simp only [List.getElem_toArray, List.getElem_cons_succ, List.getElem_cons_zero, Act.put, List.setIfInBounds_toArray, List.set_cons_zero, List.set_cons_succ])
        refine wpAnyH_take (i := 14) (v := undef) rfl (by kernel_rfl) (by kernel_rfl) (by kernel_rfl) (fun _ _ _ h => h) (Or.inr ⟨by rfl, rfl⟩) hHeld ?_
        (try simp only [List.getElem_toArray, List.getElem_cons_succ, List.getElem_cons_zero, Act.put, List.setIfInBounds_toArray, List.set_cons_zero, List.set_cons_succ])
        refine wpAnyH_take (i := 15) (v := undef) rfl (by kernel_rfl) (by kernel_rfl) (by kernel_rfl) (fun _ _ _ h => h) (Or.inr ⟨by rfl, rfl⟩) hHeld ?_
        (try simp only [List.getElem_toArray, List.getElem_cons_succ, List.getElem_cons_zero, Act.put, List.setIfInBounds_toArray, List.set_cons_zero, List.set_cons_succ])
        refine wpAnyH_take (i := 16) (v := ?_) rfl (by kernel_rfl) (by kernel_rfl) (by kernel_rfl) (fun _ _ _ h => h) (Or.inl ⟨by rfl, ?_⟩) hHeld ?_
        rotate_left
        · ((intro w _; go_simp); try with_reducible rfl)
        (try simp only [List.getElem_toArray, List.getElem_cons_succ, List.getElem_cons_zero, Act.put, List.setIfInBounds_toArray, List.set_cons_zero, List.set_cons_succ])
        refine wpAnyH_done (by kernel_rfl) ?_ _
        have BW := Lib.hid (bstep HB.out hHeld)
        clear hHeld
        go_wp2_with fail
        go_ret2
        exact ⟨⟨_, by rw [HSH.out.1]; rfl, by rw [HSH.out.2]; exact Own.nil _ _⟩, BW.out⟩
      | true =>
        rw [c1] at IS
        cases c2 : like f hf with
        | false =>
          have HSH := Lib.hid (jE_shp (L := fs) (by
            cases q : shp fs with
            | false => rfl
            | true => exact absurd (shp_mem q f (List.mem_of_getElem? HX.out)).2 (by rw [HY.out, c2]; decide)))
          rw [c2] at LK
          refine wp_region_held_drew (S := fun w' => Below wr.heap.size wr w') (by kernel_rfl) ((brefl wr).drew) (fun hHeld => ?_)
          refine wpAnyH_take (i := 0) (v := ?_) rfl (by kernel_rfl) (by kernel_rfl) (by kernel_rfl) (fun _ _ _ h => h) (Or.inl ⟨by rfl, ?_⟩) hHeld ?_
          rotate_left
          · ((intro w _; go_simp); try with_reducible rfl)
          (try simp only [List.getElem_toArray, List.getElem_cons_succ, List.getElem_cons_zero, Act.put, List.setIfInBounds_toArray, List.set_cons_zero, List.set_cons_succ])
          refine wpAnyH_take (i := 1) (v := ?_) rfl (by kernel_rfl) (by kernel_rfl) (by kernel_rfl) (fun _ _ _ h => h) (Or.inl ⟨by rfl, ?_⟩) hHeld ?_
          rotate_left
          · ((intro w _; go_simp); try with_reducible rfl)
          (try simp only [List.getElem_toArray, List.getElem_cons_succ, List.getElem_cons_zero, Act.put, List.setIfInBounds_toArray, List.set_cons_zero, List.set_cons_succ])
          refine wpAnyH_take (i := 2) (v := ?_) rfl (by kernel_rfl) (by kernel_rfl) (by kernel_rfl) (fun _ _ _ h => h) (Or.inl ⟨by rfl, ?_⟩) hHeld ?_
          rotate_left
          · ((intro w _; go_simp); try with_reducible rfl)
          (try simp only [List.getElem_toArray, List.getElem_cons_succ, List.getElem_cons_zero, Act.put, List.setIfInBounds_toArray, List.set_cons_zero, List.set_cons_succ])
          refine wpAnyH_take (i := 3) rfl (by kernel_rfl) (by kernel_rfl) (by kernel_rfl) (fun _ _ _ h => h) (yieldsIf_load_mid (by rfl) 24 _ rfl _ _ rfl (fvs f (.slice fa f.dat.length fc)) _ (fun w h => KF.out w h) Try.underlying24 rfl (by exact info_fr)) hHeld ?_
          (try simp only [List.getElem_toArray, List.getElem_cons_succ, List.getElem_cons_zero, Act.put, List.setIfInBounds_toArray, List.set_cons_zero, List.set_cons_succ])
          refine wpAnyH_ready (rs := [4]) (by kernel_rfl) (by simp) (AllReadyH.cons rfl (fun KQ hKQ => ?_) AllReadyH.nil)
          go_simp
          refine (IS.out _).mono ?_
          rintro e w' ⟨rfl, hb⟩
          replace hHeld := bstep hHeld hb
          clear hb
          go_wp2_with fail
          refine hKQ.out _ _ hHeld (fun hH2 => ?_)
          clear hKQ KQ hHeld
          have hHeld := hH2
          clear hH2
          (try simp only [List.getElem_toArray, List.getElem_cons_succ, List.getElem_cons_zero, Act.put, List.setIfInBounds_toArray, List.set_cons_zero, List.set_cons_succ])
          refine wpAnyH_take (i := 5) (v := ?_) rfl (by kernel_rfl) (by kernel_rfl) (by kernel_rfl) (fun _ _ _ h => h) (Or.inl ⟨by rfl, ?_⟩) hHeld ?_
          rotate_left
          · ((intro w _; go_simp); try with_reducible rfl)
          (try simp only [List.getElem_toArray, List.getElem_cons_succ, List.getElem_cons_zero, Act.put, List.setIfInBounds_toArray, List.set_cons_zero, List.set_cons_succ])
          refine wpAnyH_take (i := 6) (v := ?_) rfl (by kernel_rfl) (by kernel_rfl) (by kernel_rfl) (fun _ _ _ h => h) (Or.inl ⟨by rfl, ?_⟩) hHeld ?_
          rotate_left
          · ((intro w _; go_simp); try with_reducible rfl)
          (try simp only [List.getElem_toArray, List.getElem_cons_succ, List.getElem_cons_zero, Act.put, List.setIfInBounds_toArray, List.set_cons_zero, List.set_cons_succ])
          refine wpAnyH_take (i := 7) (v := ?_) rfl (by kernel_rfl) (by kernel_rfl) (by kernel_rfl) (fun _ _ _ h => h) (Or.inl ⟨by rfl, ?_⟩) hHeld ?_
          rotate_left
          · ((intro w _; go_simp); try with_reducible rfl)
          (try simp only [List.getElem_toArray, List.getElem_cons_succ, List.getElem_cons_zero, Act.put, List.setIfInBounds_toArray, List.set_cons_zero, List.set_cons_succ])
          refine wpAnyH_take (i := 8) (v := ?_) rfl (by kernel_rfl) (by kernel_rfl) (by kernel_rfl) (fun _ _ _ h => h) (Or.inl ⟨by rfl, ?_⟩) hHeld ?_
          rotate_left
          · ((intro w _; go_simp); try with_reducible rfl)
          (try simp only [List.getElem_toArray, List.getElem_cons_succ, List.getElem_cons_zero, Act.put, List.setIfInBounds_toArray, List.set_cons_zero, List.set_cons_succ])
          refine wpAnyH_take (i := 9) (v := ?_) rfl (by kernel_rfl) (by kernel_rfl) (by kernel_rfl) (fun _ _ _ h => h) (Or.inl ⟨by rfl, ?_⟩) hHeld ?_
          rotate_left
          · ((intro w _; go_simp); try with_reducible rfl)
          (try simp only [List.getElem_toArray, List.getElem_cons_succ, List.getElem_cons_zero, Act.put, List.setIfInBounds_toArray, List.set_cons_zero, List.set_cons_succ])
          refine wpAnyH_take (i := 10) rfl (by kernel_rfl) (by kernel_rfl) (by kernel_rfl) (fun _ _ _ h => h) (yieldsIf_load_mid (by rfl) 24 _ rfl _ _ rfl (fvs f (.slice fa f.dat.length fc)) _ (fun w h => KF.out w h) Try.underlying24 rfl (by exact info_fr)) hHeld ?_
          (try simp only [List.getElem_toArray, List.getElem_cons_succ, List.getElem_cons_zero, Act.put, List.setIfInBounds_toArray, List.set_cons_zero, List.set_cons_succ])
          refine wpAnyH_take (i := 11) (v := ?_) rfl (by kernel_rfl) (by kernel_rfl) (by kernel_rfl) (fun _ _ _ h => h) (Or.inl ⟨by rfl, ?_⟩) hHeld ?_
          rotate_left
          · ((intro w _; go_simp); try with_reducible rfl)
          (try simp only [List.getElem_toArray, List.getElem_cons_succ, List.getElem_cons_zero, Act.put, List.setIfInBounds_toArray, List.set_cons_zero, List.set_cons_succ])
          refine wpAnyH_take (i := 12) (v := ?_) rfl (by kernel_rfl) (by kernel_rfl) (by kernel_rfl) (fun _ _ _ h => h) (Or.inl ⟨by rfl, ?_⟩) hHeld ?_
          rotate_left
          · ((intro w _; go_simp); try with_reducible rfl)
          (try simp only [List.getElem_toArray, List.getElem_cons_succ, List.getElem_cons_zero, Act.put, List.setIfInBounds_toArray, List.set_cons_zero, List.set_cons_succ])
          refine wpAnyH_take (i := 13) rfl (by kernel_rfl) (by kernel_rfl) (by kernel_rfl) (fun _ _ _ h => h) (yieldsIf_load_mid (by rfl) 24 _ rfl _ _ rfl (fvs hf (.slice ha hf.dat.length hc)) _ (fun w h => KH.out w h) Try.underlying24 rfl (by exact info_fr)) hHeld ?_
          (try simp only [List.getElem_toArray, List.getElem_cons_succ, List.getElem_cons_zero, Act.put, List.setIfInBounds_toArray, List.set_cons_zero, List.set_cons_succ])
          refine wpAnyH_ready (rs := [14]) (by kernel_rfl) (by simp) (AllReadyH.cons rfl (fun KQ hKQ => ?_) AllReadyH.nil)
          go_simp
          refine (LK.out _).mono ?_
          rintro e w' ⟨rfl, hb⟩
          replace hHeld := bstep hHeld hb
          clear hb
          go_wp2_with fail
          refine hKQ.out _ _ hHeld (fun hH2 => ?_)
          clear hKQ KQ hHeld
          have hHeld := hH2
          clear hH2
          (try simp only [List.getElem_toArray, List.getElem_cons_succ, List.getElem_cons_zero, Act.put, List.setIfInBounds_toArray, List.set_cons_zero, List.set_cons_succ])
          refine wpAnyH_take (i := 15) (v := ?_) rfl (by kernel_rfl) (by kernel_rfl) (by kernel_rfl) (fun _ _ _ h => h) (Or.inl ⟨by rfl, ?_⟩) hHeld ?_
          rotate_left
          · ((intro w _; go_simp); try with_reducible rfl)
          (try simp only [List.getElem_toArray, List.getElem_cons_succ, List.getElem_cons_zero, Act.put, List.setIfInBounds_toArray, List.set_cons_zero, List.set_cons_succ])
          refine wpAnyH_take (i := 16) (v := ?_) rfl (by kernel_rfl) (by kernel_rfl) (by kernel_rfl) (fun _ _ _ h => h) (Or.inl ⟨by rfl, ?_⟩) hHeld ?_
          rotate_left
          · ((intro w _; go_simp); try with_reducible rfl)
          (try simp only [List.getElem_toArray, List.getElem_cons_succ, List.getElem_cons_zero, Act.put, List.setIfInBounds_toArray, List.set_cons_zero, List.set_cons_succ])
          refine wpAnyH_done (by kernel_rfl) ?_ _
          have BW := Lib.hid (bstep HB.out hHeld)
          clear hHeld
          go_wp2_with fail
          go_ret2
          exact ⟨⟨_, by rw [HSH.out.1]; rfl, by rw [HSH.out.2]; exact Own.nil _ _⟩, BW.out⟩
        | true =>
          have HN : Hid (∀ x ∈ fs.take (k + 1), okFr x = true ∧ like x (fs.headD fr0) = true) := Lib.hid (by
            intro x hx
            rw [List.take_add_one, HX.out] at hx
            rcases List.mem_append.1 hx with hx | hx
            · exact HA.out x hx
            · simp at hx
              subst hx
              exact ⟨c1, by rw [HY.out]; exact c2⟩)
          rw [c2] at LK
          refine wp_region_held_drew (S := fun w' => Below wr.heap.size wr w') (by kernel_rfl) ((brefl wr).drew) (fun hHeld => ?_)
          refine wpAnyH_take (i := 0) (v := ?_) rfl (by kernel_rfl) (by kernel_rfl) (by kernel_rfl) (fun _ _ _ h => h) (Or.inl ⟨by rfl, ?_⟩) hHeld ?_
          rotate_left
          · ((intro w _; go_simp); try with_reducible rfl)
          (try simp only [List.getElem_toArray, List.getElem_cons_succ, List.getElem_cons_zero, Act.put, List.setIfInBounds_toArray, List.set_cons_zero, List.set_cons_succ])
          refine wpAnyH_take (i := 1) (v := ?_) rfl (by kernel_rfl) (by kernel_rfl) (by kernel_rfl) (fun _ _ _ h => h) (Or.inl ⟨by rfl, ?_⟩) hHeld ?_
          rotate_left
          · ((intro w _; go_simp); try with_reducible rfl)
          (try simp only [List.getElem_toArray, List.getElem_cons_succ, List.getElem_cons_zero, Act.put, List.setIfInBounds_toArray, List.set_cons_zero, List.set_cons_succ])
          refine wpAnyH_take (i := 2) (v := ?_) rfl (by kernel_rfl) (by kernel_rfl) (by kernel_rfl) (fun _ _ _ h => h) (Or.inl ⟨by rfl, ?_⟩) hHeld ?_
          rotate_left
          · ((intro w _; go_simp); try with_reducible rfl)
          (try simp only [List.getElem_toArray, List.getElem_cons_succ, List.getElem_cons_zero, Act.put, List.setIfInBounds_toArray, List.set_cons_zero, List.set_cons_succ])
          refine wpAnyH_take (i := 3) rfl (by kernel_rfl) (by kernel_rfl) (by kernel_rfl) (fun _ _ _ h => h) (yieldsIf_load_mid (by rfl) 24 _ rfl _ _ rfl (fvs f (.slice fa f.dat.length fc)) _ (fun w h => KF.out w h) Try.underlying24 rfl (by exact info_fr)) hHeld ?_
          (try simp only [List.getElem_toArray, List.getElem_cons_succ, List.getElem_cons_zero, Act.put, List.setIfInBounds_toArray, List.set_cons_zero, List.set_cons_succ])
          refine wpAnyH_ready (rs := [4]) (by kernel_rfl) (by simp) (AllReadyH.cons rfl (fun KQ hKQ => ?_) AllReadyH.nil)
          go_simp
          refine (IS.out _).mono ?_
          rintro e w' ⟨rfl, hb⟩
          replace hHeld := bstep hHeld hb
          clear hb
          go_wp2_with fail
          refine hKQ.out _ _ hHeld (fun hH2 => ?_)
          clear hKQ KQ hHeld
          have hHeld := hH2
          clear hH2
          (try simp only [List.getElem_toArray, List.getElem_cons_succ, List.getElem_cons_zero, Act.put, List.setIfInBounds_toArray, List.set_cons_zero, List.set_cons_succ])
          refine wpAnyH_take (i := 5) (v := ?_) rfl (by kernel_rfl) (by kernel_rfl) (by kernel_rfl) (fun _ _ _ h => h) (Or.inl ⟨by rfl, ?_⟩) hHeld ?_
          rotate_left
          · ((intro w _; go_simp); try with_reducible rfl)
          (try simp only [List.getElem_toArray, List.getElem_cons_succ, List.getElem_cons_zero, Act.put, List.setIfInBounds_toArray, List.set_cons_zero, List.set_cons_succ])
          refine wpAnyH_take (i := 6) (v := ?_) rfl (by kernel_rfl) (by kernel_rfl) (by kernel_rfl) (fun _ _ _ h => h) (Or.inl ⟨by rfl, ?_⟩) hHeld ?_
          rotate_left
          · ((intro w _; go_simp); try with_reducible rfl)
          (try simp only [List.getElem_toArray, List.getElem_cons_succ, List.getElem_cons_zero, Act.put, List.setIfInBounds_toArray, List.set_cons_zero, List.set_cons_succ])
          refine wpAnyH_take (i := 7) (v := ?_) rfl (by kernel_rfl) (by kernel_rfl) (by kernel_rfl) (fun _ _ _ h => h) (Or.inl ⟨by rfl, ?_⟩) hHeld ?_
          rotate_left
          · ((intro w _; go_simp); try with_reducible rfl)
          (try simp only [List.getElem_toArray, List.getElem_cons_succ, List.getElem_cons_zero, Act.put, List.setIfInBounds_toArray, List.set_cons_zero, List.set_cons_succ])
          refine wpAnyH_take (i := 8) (v := ?_) rfl (by kernel_rfl) (by kernel_rfl) (by kernel_rfl) (fun _ _ _ h => h) (Or.inl ⟨by rfl, ?_⟩) hHeld ?_
          rotate_left
          · ((intro w _; go_simp); try with_reducible rfl)
          (try simp only [List.getElem_toArray, List.getElem_cons_succ, List.getElem_cons_zero, Act.put, List.setIfInBounds_toArray, List.set_cons_zero, List.set_cons_succ])
          refine wpAnyH_take (i := 9) (v := ?_) rfl (by kernel_rfl) (by kernel_rfl) (by kernel_rfl) (fun _ _ _ h => h) (Or.inl ⟨by rfl, ?_⟩) hHeld ?_
          rotate_left
          · ((intro w _; go_simp); try with_reducible rfl)
          (try simp only [List.getElem_toArray, List.getElem_cons_succ, List.getElem_cons_zero, Act.put, List.setIfInBounds_toArray, List.set_cons_zero, List.set_cons_succ])
          refine wpAnyH_take (i := 10) rfl (by kernel_rfl) (by kernel_rfl) (by kernel_rfl) (fun _ _ _ h => h) (yieldsIf_load_mid (by rfl) 24 _ rfl _ _ rfl (fvs f (.slice fa f.dat.length fc)) _ (fun w h => KF.out w h) Try.underlying24 rfl (by exact info_fr)) hHeld ?_
          (try simp only [List.getElem_toArray, List.getElem_cons_succ, List.getElem_cons_zero, Act.put, List.setIfInBounds_toArray, List.set_cons_zero, List.set_cons_succ])
          refine wpAnyH_take (i := 11) (v := ?_) rfl (by kernel_rfl) (by kernel_rfl) (by kernel_rfl) (fun _ _ _ h => h) (Or.inl ⟨by rfl, ?_⟩) hHeld ?_
          rotate_left
          · ((intro w _; go_simp); try with_reducible rfl)
          (try simp only [List.getElem_toArray, List.getElem_cons_succ, List.getElem_cons_zero, Act.put, List.setIfInBounds_toArray, List.set_cons_zero, List.set_cons_succ])
          refine wpAnyH_take (i := 12) (v := ?_) rfl (by kernel_rfl) (by kernel_rfl) (by kernel_rfl) (fun _ _ _ h => h) (Or.inl ⟨by rfl, ?_⟩) hHeld ?_
          rotate_left
          · ((intro w _; go_simp); try with_reducible rfl)
          (try simp only [List.getElem_toArray, List.getElem_cons_succ, List.getElem_cons_zero, Act.put, List.setIfInBounds_toArray, List.set_cons_zero, List.set_cons_succ])
          refine wpAnyH_take (i := 13) rfl (by kernel_rfl) (by kernel_rfl) (by kernel_rfl) (fun _ _ _ h => h) (yieldsIf_load_mid (by rfl) 24 _ rfl _ _ rfl (fvs hf (.slice ha hf.dat.length hc)) _ (fun w h => KH.out w h) Try.underlying24 rfl (by exact info_fr)) hHeld ?_
          (try simp only [List.getElem_toArray, List.getElem_cons_succ, List.getElem_cons_zero, Act.put, List.setIfInBounds_toArray, List.set_cons_zero, List.set_cons_succ])
          refine wpAnyH_ready (rs := [14]) (by kernel_rfl) (by simp) (AllReadyH.cons rfl (fun KQ hKQ => ?_) AllReadyH.nil)
          go_simp
          refine (LK.out _).mono ?_
          rintro e w' ⟨rfl, hb⟩
          replace hHeld := bstep hHeld hb
          clear hb
          go_wp2_with fail
          refine hKQ.out _ _ hHeld (fun hH2 => ?_)
          clear hKQ KQ hHeld
          have hHeld := hH2
          clear hH2
          (try simp only [List.getElem_toArray, List.getElem_cons_succ, List.getElem_cons_zero, Act.put, List.setIfInBounds_toArray, List.set_cons_zero, List.set_cons_succ])
          refine wpAnyH_take (i := 15) (v := ?_) rfl (by kernel_rfl) (by kernel_rfl) (by kernel_rfl) (fun _ _ _ h => h) (Or.inl ⟨by rfl, ?_⟩) hHeld ?_
          rotate_left
          · ((intro w _; go_simp); try with_reducible rfl)
          (try simp only [List.getElem_toArray, List.getElem_cons_succ, List.getElem_cons_zero, Act.put, List.setIfInBounds_toArray, List.set_cons_zero, List.set_cons_succ])
          refine wpAnyH_take (i := 16) (v := ?_) rfl (by kernel_rfl) (by kernel_rfl) (by kernel_rfl) (fun _ _ _ h => h) (Or.inl ⟨by rfl, ?_⟩) hHeld ?_
          rotate_left
          · ((intro w _; go_simp); try with_reducible rfl)
          (try simp only [List.getElem_toArray, List.getElem_cons_succ, List.getElem_cons_zero, Act.put, List.setIfInBounds_toArray, List.set_cons_zero, List.set_cons_succ])
          refine wpAnyH_done (by kernel_rfl) ?_ _
          have BW := Lib.hid (bstep HB.out hHeld)
          clear hHeld
          go_wp2_with fail
          exact ⟨⟨k + 1, by omega, by go_num, HN.out, BW.out⟩, by simp [intOf]; omega⟩
    · have e1 : decide ((k : Int) < (m : Int)) = false := decide_eq_false (by omega)
      obtain rfl : k = m := by omega
      have SH : Hid (shp fs = true) := Lib.hid (by
        unfold shp
        refine List.all_eq_true.2 fun x hx => ?_
        have := HA.out x (by rw [← HL.out, List.take_length]; exact hx)
        rw [this.1, this.2]; rfl)
      have HD : Hid (∀ x ∈ L, x.1.dat.length ≤ 468) := Lib.hid (fun x hx => by
        have : x.1 ∈ fs := by rw [← HFS.out]; exact List.mem_map_of_mem hx
        exact (okFr_cut (shp_mem SH.out _ this).1).2.2.2.2.2.2)
      clear HA
      have FR := Lib.hid (HF.out.below HB.out)
      clear HF
      go_upto_region 7 with fail
      go_loopw [5] (fun iv wy => ∃ i : Nat, i ≤ k ∧ iv = .int .i64 (i : Nat) ∧ (∀ i' j a b, i' < i → j < i' → fs[i']? = some a → fs[j]? = some b → a.off ≠ b.off) ∧ Below wr.heap.size wr wy) (fun iv _ => k - (intOf iv).toNat)
      case atStart => exact ⟨0, Nat.zero_le _, rfl, fun _ _ _ _ h => absurd h (Nat.not_lt_zero _), brefl wr⟩
      case round =>
        obtain ⟨i, hi, rfl, hne, hby⟩ := hrel
        rename World => wy
        have HNE := Lib.hid hne
        have HBY := Lib.hid hby
        clear hne hby
        by_cases c2 : i < k
        · have e2 : decide ((i : Int) < (k : Int)) = true := decide_eq_true (by omega)
          have i1 : (i : Int) < (k : Int) := by omega
          have i0 : (0 : Int) ≤ (i : Int) := by omega
          go_upto_region 10 with fail
          go_loopw [6] (fun jv wz => ∃ j : Nat, j ≤ i ∧ jv = .int .i64 (j : Nat) ∧ (∀ j' a b, j' < j → fs[i]? = some a → fs[j']? = some b → a.off ≠ b.off) ∧ Below wy.heap.size wy wz) (fun jv _ => i - (intOf jv).toNat)
          case atStart => exact ⟨0, Nat.zero_le _, rfl, fun _ _ _ h => absurd h (Nat.not_lt_zero _), brefl wy⟩
          case round =>
            obtain ⟨j, hj, rfl, hnj, hbz⟩ := hrel
            rename World => wz
            have HNJ := Lib.hid hnj
            have HBZ := Lib.hid hbz
            clear hnj hbz
            by_cases c3 : j < i
            · have e3 : decide ((j : Int) < (i : Int)) = true := decide_eq_true (by omega)
              have j1 : (j : Int) < (k : Int) := by omega
              have j0 : (0 : Int) ≤ (j : Int) := by omega
              obtain ⟨x, hx⟩ : ∃ x, L[i]? = some x := ⟨_, List.getElem?_eq_getElem (by rw [HM.out]; exact c2)⟩
              obtain ⟨y, hy⟩ : ∃ y, L[j]? = some y := ⟨_, List.getElem?_eq_getElem (by rw [HM.out]; omega)⟩
              have F3 := (FR.out.below HBY.out).below HBZ.out
              rw [← HM.out] at F3
              obtain ⟨b, o, rfl, _, rx, _⟩ := F3.at hx
              obtain ⟨b', o', e', _, ry, _⟩ := F3.at hy
              cases e'
              have cx : wz.cell? ⟨b, o + i * 10 + 8, none⟩ = some (.int .i64 x.1.off) := rx 8 _ rfl
              have cy : wz.cell? ⟨b, o + j * 10 + 8, none⟩ = some (.int .i64 y.1.off) := ry 8 _ rfl
              have gx : Hid (fs[i]? = some x.1) := Lib.hid (by rw [← HFS.out, List.getElem?_map, hx]; rfl)
              have gy : Hid (fs[j]? = some y.1) := Lib.hid (by rw [← HFS.out, List.getElem?_map, hy]; rfl)
              clear F3 rx ry hx hy
              obtain ⟨x, xv⟩ := x
              obtain ⟨y, yv⟩ := y
              simp only at cx cy gx gy
              by_cases c4 : x.off = y.off
              · have e4 : (x.off == y.off) = true := by simp [c4]
                have HJ := Lib.hid (jE_twice SH.out (dup_of c3 gx.out gy.out c4))
                clear c4
                go_upto_region 12 with fail
                go_quiet (fail)
                go_wp2_with fail
                go_ret2
                exact ⟨⟨_, by rw [HJ.out.1]; rfl, by rw [HJ.out.2]; exact Own.nil _ _⟩, bstep HB.out (bstep HBY.out (bdrew HBZ.out _))⟩
              · have e4 : (x.off == y.off) = false := by simp [c4]
                have HJ : Hid (∀ j' a b, j' < j + 1 → fs[i]? = some a → fs[j']? = some b → a.off ≠ b.off) := Lib.hid (fun j' a b h ha hb => by
                  by_cases q : j' = j
                  · subst q
                    rw [gx.out] at ha
                    rw [gy.out] at hb
                    cases ha; cases hb
                    exact c4
                  · exact HNJ.out j' a b (by omega) ha hb)
                clear c4
                go_upto_region 12 with fail
                go_quiet (fail)
                go_wp2_with fail
                exact ⟨⟨j + 1, by omega, by go_num, HJ.out, bdrew HBZ.out _⟩, by simp [intOf]; omega⟩
            · have e3 : decide ((j : Int) < (i : Int)) = false := decide_eq_false (by omega)
              obtain rfl : j = i := by omega
              have HN : Hid (∀ i' j' a b, i' < j + 1 → j' < i' → fs[i']? = some a → fs[j']? = some b → a.off ≠ b.off) := Lib.hid (fun i' j' a b h h2 ha hb => by
                by_cases q : i' = j
                · subst q
                  exact HNJ.out j' a b h2 ha hb
                · exact HNE.out i' j' a b (by omega) h2 ha hb)
              have BZ := Lib.hid (bstep HBY.out HBZ.out)
              clear HNJ HNE HBZ HBY
              go_wp2_with fail
              exact ⟨⟨j + 1, by omega, by go_num, HN.out, BZ.out⟩, by simp [intOf]; omega⟩
        · have e2 : decide ((i : Int) < (k : Int)) = false := decide_eq_false (by omega)
          obtain rfl : i = k := by omega
          have ND : Hid ((fs.map (·.off)).Nodup) := Lib.hid (nd_of fun i' j a b h h2 ha hb => HNE.out i' j a b (by rw [HL.out] at h; exact h) h2 ha hb)
          have B1 := Lib.hid (bstep HB.out HBY.out)
          clear HNE HBY HB FR
          go_upto_region 16 with fail
          go_loopw [7, 8] (fun ov uv wx => ∃ (u : Nat) (out : List Nat), u ≤ i ∧ uv = .int .i64 (u : Nat) ∧ Own wx w.heap.size ov out ∧ out.length ≤ u * 468 ∧ rj fs i [] = rj fs (i - u) out ∧ Below w.heap.size w wx) (fun _ uv _ => i - (intOf uv).toNat)
          case atStart => exact ⟨0, [], Nat.zero_le _, rfl, Own.nil _ _, Nat.le_refl _, rfl, B1.out⟩
          case round =>
            obtain ⟨u, out, hu, rfl, ho, hl, hj, hbx⟩ := hrel
            rename World => wx
            have HO := Lib.hid ho
            have HBX := Lib.hid hbx
            have HJ := Lib.hid hj
            obtain ⟨da, dc, rfl⟩ := own_form ho
            obtain ⟨n, hn2⟩ : ∃ n, out.length = n := ⟨_, rfl⟩
            have HNL := Lib.hid hn2
            rw [hn2] at hl HO ⊢
            have n1 : (n : Int) ≤ 468000 := by omega
            have HA := Lib.hid hl
            clear ho hbx hj hl hn2
            by_cases c3 : u < i
            · have e3 : decide ((u : Int) < (i : Int)) = true := decide_eq_true (by omega)
              have u1 : (u : Int) < (i : Int) := by omega
              have u0 : (0 : Int) ≤ (u : Int) := by omega
              have i0 : (0 : Int) < (i : Int) := by omega
              have F2 := Lib.hid (HF0.out.below HBX.out)
              go_upto_region 20 with fail
              go_loopw [9, 10] (fun nv jv wz => ∃ (j : Nat) (q : Int), j ≤ i ∧ jv = .int .i64 (j : Nat) ∧ nv = .int .i64 q ∧ Sr fs n u j q ∧ Below wx.heap.size wx wz) (fun _ jv _ => i - (intOf jv).toNat)
              case atStart => exact ⟨0, -1, Nat.zero_le _, rfl, rfl, .inl ⟨rfl, fun j a h => absurd h (Nat.not_lt_zero _)⟩, brefl wx⟩
              case round =>
                obtain ⟨j, q, hj, rfl, rfl, hs, hbz⟩ := hrel
                rename World => wz
                have HS := Lib.hid hs
                have HBZ := Lib.hid hbz
                clear hs hbz
                by_cases c4 : j < i
                · have e4 : decide ((j : Int) < (i : Int)) = true := decide_eq_true (by omega)
                  have j1 : (j : Int) < (i : Int) := by omega
                  have j0 : (0 : Int) ≤ (j : Int) := by omega
                  obtain ⟨x, hx⟩ : ∃ x, L[j]? = some x := ⟨_, List.getElem?_eq_getElem (by rw [HM.out]; exact c4)⟩
                  have F3 := F2.out.below HBZ.out
                  obtain ⟨b, o, rfl, _, rx, _⟩ := F3.at hx
                  have cx : wz.cell? ⟨b, o + j * 10 + 8, none⟩ = some (.int .i64 x.1.off) := rx 8 _ rfl
                  have gx : Hid (fs[j]? = some x.1) := Lib.hid (by rw [← HFS.out, List.getElem?_map, hx]; rfl)
                  clear F3 rx hx
                  obtain ⟨x, xv⟩ := x
                  simp only at cx gx
                  have HT : Hid (hit n u x = (decide (x.off = (n : Int)) && (decide (u = 0) || decide (0 < x.off)))) := Lib.hid rfl
                  cases g1 : (x.off == (n : Int)) with
                  | false =>
                    have HR := Lib.hid (sr_no HS.out gx.out (by rw [HT.out, show decide (x.off = (n : Int)) = false from g1]; rfl))
                    clear HS HT gx
                    go_wp2_with fail
                    exact ⟨⟨j + 1, q, by omega, by go_num, rfl, HR.out, HBZ.out⟩, by simp [intOf]; omega⟩
                  | true =>
                    cases g2 : ((u : Int) == 0) with
                    | true =>
                      have HR := Lib.hid (sr_yes (nv := q) gx.out (show hit n u x = true by rw [HT.out, show decide (x.off = (n : Int)) = true from g1, show decide (u = 0) = true from decide_eq_true (by have := eq_of_beq g2; omega)]; rfl))
                      clear HS HT gx
                      go_wp2_with fail
                      exact ⟨⟨j + 1, (j : Int), by omega, by go_num, rfl, HR.out, HBZ.out⟩, by simp [intOf]; omega⟩
                    | false =>
                      have ud : decide (u = 0) = false := decide_eq_false (fun z => by rw [z] at g2; simp at g2)
                      cases g3 : decide (0 < x.off) with
                      | true =>
                        have HR := Lib.hid (sr_yes (nv := q) gx.out (show hit n u x = true by rw [HT.out, show decide (x.off = (n : Int)) = true from g1, ud, g3]; rfl))
                        clear HS HT gx
                        go_wp2_with fail
                        exact ⟨⟨j + 1, (j : Int), by omega, by go_num, rfl, HR.out, HBZ.out⟩, by simp [intOf]; omega⟩
                      | false =>
                        have HR := Lib.hid (sr_no HS.out gx.out (show hit n u x = false by rw [HT.out, show decide (x.off = (n : Int)) = true from g1, ud, g3]; rfl))
                        clear HS HT gx
                        go_wp2_with fail
                        exact ⟨⟨j + 1, q, by omega, by go_num, rfl, HR.out, HBZ.out⟩, by simp [intOf]; omega⟩
                · have e4 : decide ((j : Int) < (i : Int)) = false := decide_eq_false (by omega)
                  obtain rfl : j = i := by omega
                  have BX := Lib.hid (bstep HBX.out HBZ.out)
                  rcases HS.out with ⟨rfl, h2⟩ | ⟨p, f, p1, rfl, p3, p4⟩
                  · have HQ : Hid (rj fs j [] = none) := Lib.hid (by
                      rw [HJ.out, ← HL.out]
                      exact rj_end HNL.out.symm (by rw [HL.out]; exact c3) (fun j' a h ha => h2 j' a (by rw [HL.out] at h; exact h) ha))
                    have JJ := Lib.hid (jE_none SH.out ND.out (by rw [HL.out]; exact HQ.out))
                    clear HS h2 HJ
                    go_wp2_with fail
                    go_ret2
                    exact ⟨⟨_, by rw [JJ.out.1]; rfl, by rw [JJ.out.2]; exact Own.nil _ _⟩, BX.out⟩
                  · have HQ : Hid (rj fs j [] = if f.more = decide (u + 1 < j) ∧ (f.dat ≠ [] ∨ u + 1 = j) then rj fs (j - (u + 1)) (out ++ f.dat) else none) := Lib.hid (by
                      rw [HJ.out]
                      have := rj_go (L := fs) HNL.out.symm (by rw [HL.out]; exact c3) ND.out p3 p4
                      rw [HL.out] at this
                      exact this)
                    have p0 : (0 : Int) ≤ (p : Int) := by omega
                    have pj : (p : Int) < (j : Int) := by omega
                    have pn : decide ((p : Int) < 0) = false := decide_eq_false (by omega)
                    obtain ⟨x, hx⟩ : ∃ x, L[p]? = some x := ⟨_, List.getElem?_eq_getElem (by rw [HM.out]; exact p1)⟩
                    have ex : x.1 = f := by
                      have : fs[p]? = some x.1 := by rw [← HFS.out, List.getElem?_map, hx]; rfl
                      rw [p3] at this; cases this; rfl
                    have F3 := F2.out.below HBZ.out
                    have FW := HF0.out
                    obtain ⟨b, o, rfl, hb0, _, _⟩ := FW.at hx
                    obtain ⟨b', o', e', hbb, rx, hS⟩ := F3.at hx
                    cases e'
                    have dl := HD.out x (List.mem_of_getElem? hx)
                    obtain ⟨x, xv⟩ := x
                    simp only at ex rx hS dl
                    subst ex
                    obtain ⟨xa, xc, rfl⟩ := hS.form
                    have cm : wz.cell? ⟨b, o + p * 10 + 3, none⟩ = some (.bool x.more) := rx 3 _ rfl
                    have cd : wz.cell? ⟨b, o + p * 10 + 9, none⟩ = some (.slice xa x.dat.length xc) := rx 9 _ rfl
                    have HSL := Lib.hid hS
                    clear HS F3 FW rx hx p3 p4 HJ hS
                    obtain ⟨dn, hdn⟩ : ∃ dn, x.dat.length = dn := ⟨_, rfl⟩
                    have HDN := Lib.hid hdn
                    rw [hdn] at cd dl
                    have OZ := own_below HO.out HBZ.out
                    rw [← HNL.out] at OZ
                    obtain ⟨v2, w2, r2, o2, b2, s2, _⟩ := HSL.out.app (brefl wz) OZ BX.out.size (by have := HA.out; have := HNL.out; omega) 22
                    rw [HNL.out, HDN.out] at r2
                    have O2 := Lib.hid o2
                    have B2 := Lib.hid (BX.out.trans b2)
                    have cd2 : w2.cell? ⟨b, o + p * 10 + 9, none⟩ = some (.slice xa dn xc) := (b2.cell (p := ⟨b, o + p * 10 + 9, none⟩) hb0).trans cd
                    clear o2 b2 s2 OZ hdn hbb hb0
                    obtain ⟨M, hM⟩ : ∃ M, x.more = M := ⟨_, rfl⟩
                    have HMO := Lib.hid hM
                    rw [hM] at cm
                    clear hM
                    by_cases c5 : u + 1 < j
                    · have eL : decide ((u : Int) < (j : Int) - 1) = true := decide_eq_true (by omega)
                      cases M with
                      | false =>
                        have HZ : Hid (rj fs j [] = none) := Lib.hid (by rw [HQ.out, if_neg]; rintro ⟨z, _⟩; rw [HMO.out, decide_eq_true c5] at z; cases z)
                        have JJ := Lib.hid (jE_none SH.out ND.out (by rw [HL.out]; exact HZ.out))
                        clear HQ
                        go_wp2_with fail
                        go_ret2
                        exact ⟨⟨_, by rw [JJ.out.1]; rfl, by rw [JJ.out.2]; exact Own.nil _ _⟩, BX.out⟩
                      | true =>
                        by_cases c6 : dn = 0
                        · have e6 : ((dn : Int) == 0) = true := by simp [c6]
                          have HZ : Hid (rj fs j [] = none) := Lib.hid (by rw [HQ.out, if_neg]; rintro ⟨_, z⟩; rcases z with z | z <;> first | exact z (List.length_eq_zero_iff.1 (HDN.out.trans c6)) | omega)
                          clear c6
                          have JJ := Lib.hid (jE_none SH.out ND.out (by rw [HL.out]; exact HZ.out))
                          clear HQ
                          go_wp2_with (first | (at_builtin; refine wpList_append_eq rfl _ _ 22 rfl _ _ v2 w2 rfl rfl r2 ?_))
                          go_ret2
                          exact ⟨⟨_, by rw [JJ.out.1]; rfl, by rw [JJ.out.2]; exact Own.nil _ _⟩, B2.out⟩
                        · have e6 : ((dn : Int) == 0) = false := by simp [c6]
                          have HN : Hid (rj fs j [] = rj fs (j - (u + 1)) (out ++ x.dat)) := Lib.hid (by rw [HQ.out, if_pos ⟨by rw [HMO.out, decide_eq_true c5], .inl (fun z => c6 (by rw [← HDN.out, z]; rfl))⟩])
                          clear HQ
                          go_wp2_with (first | (at_builtin; refine wpList_append_eq rfl _ _ 22 rfl _ _ v2 w2 rfl rfl r2 ?_))
                          exact ⟨⟨u + 1, _, by omega, by go_num, O2.out, by have := HA.out; have := HNL.out; rw [List.length_append, HDN.out]; omega, HN.out, B2.out⟩, by simp [intOf]; omega⟩
                    · have eL : decide ((u : Int) < (j : Int) - 1) = false := decide_eq_false (by omega)
                      cases M with
                      | true =>
                        have HZ : Hid (rj fs j [] = none) := Lib.hid (by rw [HQ.out, if_neg]; rintro ⟨z, _⟩; rw [HMO.out, decide_eq_false c5] at z; cases z)
                        have JJ := Lib.hid (jE_none SH.out ND.out (by rw [HL.out]; exact HZ.out))
                        clear HQ
                        go_wp2_with fail
                        go_ret2
                        exact ⟨⟨_, by rw [JJ.out.1]; rfl, by rw [JJ.out.2]; exact Own.nil _ _⟩, BX.out⟩
                      | false =>
                        by_cases c6 : dn = 0
                        · have e6 : ((dn : Int) == 0) = true := by simp [c6]
                          clear c6
                          have HN : Hid (rj fs j [] = rj fs (j - (u + 1)) (out ++ x.dat)) := Lib.hid (by rw [HQ.out, if_pos ⟨by rw [HMO.out, decide_eq_false c5], .inr (by omega)⟩])
                          clear HQ
                          go_wp2_with (first | (at_builtin; refine wpList_append_eq rfl _ _ 22 rfl _ _ v2 w2 rfl rfl r2 ?_))
                          exact ⟨⟨u + 1, _, by omega, by go_num, O2.out, by have := HA.out; have := HNL.out; rw [List.length_append, HDN.out]; omega, HN.out, B2.out⟩, by simp [intOf]; omega⟩
                        · have e6 : ((dn : Int) == 0) = false := by simp [c6]
                          clear c6
                          have HN : Hid (rj fs j [] = rj fs (j - (u + 1)) (out ++ x.dat)) := Lib.hid (by rw [HQ.out, if_pos ⟨by rw [HMO.out, decide_eq_false c5], .inr (by omega)⟩])
                          clear HQ
                          go_wp2_with (first | (at_builtin; refine wpList_append_eq rfl _ _ 22 rfl _ _ v2 w2 rfl rfl r2 ?_))
                          exact ⟨⟨u + 1, _, by omega, by go_num, O2.out, by have := HA.out; have := HNL.out; rw [List.length_append, HDN.out]; omega, HN.out, B2.out⟩, by simp [intOf]; omega⟩
            · have e3 : decide ((u : Int) < (i : Int)) = false := decide_eq_false (by omega)
              obtain rfl : u = i := by omega
              have HQ : Hid (rj fs u [] = some out) := Lib.hid (by rw [HJ.out, Nat.sub_self]; rfl)
              have BX := Lib.hid HBX.out
              by_cases c4 : u = 0
              · have e4 : ((u : Int) == 0) = true := by simp [c4]
                have JJ : Hid (jE fs = 5 ∧ jD fs = []) := Lib.hid (by
                  have := HL.out
                  rw [c4] at this
                  rw [List.length_eq_zero_iff.1 this]
                  exact jE_nil)
                clear c4 HJ HQ
                go_wp2_with fail
                go_ret2
                exact ⟨⟨_, by rw [JJ.out.1]; rfl, by rw [JJ.out.2]; exact Own.nil _ _⟩, BX.out⟩
              · have e4 : ((u : Int) == 0) = false := by simp [c4]
                have JJ := Lib.hid (jE_some SH.out ND.out (fun z => c4 (by have := HL.out; rw [z] at this; exact this.symm)) (by rw [HL.out]; exact HQ.out))
                clear c4 HJ HQ
                go_wp2_with fail
                go_ret2
                exact ⟨⟨_, by rw [JJ.out.1]; rfl, by rw [JJ.out.2]; exact HO.out⟩, BX.out⟩
end Go.Proofs.Yteigmnbbfmcihaa.Ct
