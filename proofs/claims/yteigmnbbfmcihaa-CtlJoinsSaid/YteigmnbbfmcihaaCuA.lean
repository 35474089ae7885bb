/-
  The law's 'same' of two rows of one list of frames; what Cut and Join answer is bytes.
  Conditions: none.
-/
import Derived.Test.YteigmnbbfmcihaaCtZ
namespace Go.Proofs.Yteigmnbbfmcihaa.Ct
open Go.RowKit Go.ChangeShapes Go.WideShapes Go.ChangeAt Go.Joins By
set_option linter.unusedVariables false
set_option linter.unusedSimpArgs false

theorem pq_dat {f : Fr} {n : Nat} {g : Nat → Nat} (hg : ∀ i, g i < 256) (i : Nat) : (∀ y ∈ (pc f n g i).dat, y < 256) ∧ (pc f n g i).dat.length ≤ 468 := by
  refine ⟨fun y hy => ?_, ?_⟩
  · simp only [pc, bl, List.mem_map] at hy
    obtain ⟨k, _, rfl⟩ := hy
    exact hg _
  · show (bl _ _).length ≤ 468
    rw [bl_len]
    omega
theorem cq_dat {f : Fr} {n : Nat} {g : Nat → Nat} (hg : ∀ i, g i < 256) : ∀ x ∈ cp f n g, (∀ y ∈ x.dat, y < 256) ∧ x.dat.length ≤ 468 := by
  intro x hx
  unfold cp at hx
  split at hx
  · obtain ⟨i, _, rfl⟩ := List.mem_map.1 hx
    exact pq_dat hg i
  · cases hx
theorem cq_len (f : Fr) (n : Nat) (g : Nat → Nat) : (cp f n g).length ≤ 141 := by
  unfold cp
  split
  · rename_i h
    rw [List.length_map, List.length_range]
    refine npc_le ?_
    unfold ce at h
    split at h
    · split at h
      · assumption
      · omega
    · omega
  · simp
theorem rj_dat {L : List Fr} (h : ∀ f ∈ L, ∀ x ∈ f.dat, x < 256) : ∀ (k : Nat) (out res : List Nat), (∀ x ∈ out, x < 256) → rj L k out = some res → ∀ x ∈ res, x < 256
  | 0, out, res, ho, e => by rw [rj] at e; cases e; exact ho
  | k + 1, out, res, ho, e => by
    rw [rj] at e
    split at e
    · cases e
    · rename_i f hf
      split at e
      · refine rj_dat h k _ res (fun x hx => ?_) e
        rcases List.mem_append.1 hx with hx | hx
        · exact ho x hx
        · exact h f (List.mem_of_find?_eq_some hf) x hx
      · cases e
theorem jD_byte {L : List Fr} (h : ∀ f ∈ L, ∀ x ∈ f.dat, x < 256) : ∀ x ∈ jD L, x < 256 := by
  intro x hx
  unfold jD at hx
  split at hx
  · unfold jr at hx
    split at hx
    · cases hx
    · cases q : rj L L.length [] with
      | none => rw [q] at hx; cases hx
      | some r => rw [q] at hx; exact rj_dat h _ _ r (fun x hx => by cases hx) q x hx
  · cases hx
theorem fl_byte {w : World} {v : Value} {L : List (Fr × Value)} (F : Fl w v L) : ∀ f ∈ L.map Prod.fst, ∀ x ∈ f.dat, x < 256 := by
  obtain ⟨_, _, _, _, _, _, h⟩ := F
  intro f hf
  obtain ⟨x, hx, rfl⟩ := List.mem_map.1 hf
  exact (h x hx).2.1
/-- a row of frames of the call's own, cut off data. -/
theorem cut_fl {f : Fr} {n : Nat} {g : Nat → Nat} (hg : ∀ i, g i < 256) {w : World} {base : Nat} {v : Value} {row : List (Fr × Value)} (R : Rowf w base v row) (h : row.map Prod.fst = cp f n g) : Fl w v row :=
  R.fl fun x hx => by
    have := cq_dat (f := f) (n := n) hg x.1 (by rw [← h]; exact List.mem_map_of_mem hx)
    exact ⟨this.1, by omega⟩
/-- bytes of the call's own as a string. -/
theorem own_str {w0 w : World} {base : Nat} {v : Value} {l : List Nat} (h : Own w0 base v l) (h8 : ∀ x ∈ l, x < 256) (k : Below w0.heap.size w0 w) : (convert 22 9 v).run Try.prog w = .ok (.string (bs8 l)) w := by
  have := ((own_out h h8).sb).conv k
  rwa [bl_getD] at this
set_option maxRecDepth 100000 in
set_option maxHeartbeats 16000000 in
theorem same_c {w : World} {v v' : Value} {L L' : List (Fr × Value)} (F : Fl w v L) (F' : Fl w v' L') (h : L.map Prod.fst = L'.map Prod.fst) (hn : L.length ≤ 1000) : Calls Try.prog 18 #[v, v'] w fun e w' => e = .returned (.bool true) ∧ Below w.heap.size w w' := by
  obtain ⟨a, cap, rfl⟩ := F.form
  obtain ⟨a', cap', rfl⟩ := F'.form
  have HF := Lib.hid F
  have HG := Lib.hid F'
  have hcap : L.length ≤ cap ∧ cap ≤ 9223372036854775807 := by obtain ⟨_, _, e, h, h', _⟩ := F; cases e; exact ⟨h, h'⟩
  have hcap' : L'.length ≤ cap' ∧ cap' ≤ 9223372036854775807 := by obtain ⟨_, _, e, h, h', _⟩ := F'; cases e; exact ⟨h, h'⟩
  have hl : L'.length = L.length := by have := congrArg List.length h; simpa using this.symm
  obtain ⟨m, hm⟩ : ∃ m, L.length = m := ⟨_, rfl⟩
  have HM := Lib.hid hm
  have HM' : Hid (L'.length = m) := Lib.hid (hl.trans hm)
  have HH := Lib.hid h
  rw [hl, hm]
  rw [hl, hm] at hcap'
  rw [hm] at hcap hn
  have m0 : (0 : Int) ≤ (m : Int) := by omega
  have m1 : (m : Int) ≤ 1000 := by omega
  have m2 : (m : Int) ≤ (cap : Int) := by omega
  have m3 : (cap : Int) ≤ 9223372036854775807 := by omega
  have m4 : (m : Int) ≤ (cap' : Int) := by omega
  have m5 : (cap' : Int) ≤ 9223372036854775807 := by omega
  clear F F' hcap hcap' hl hm h
  go_enter Try.func18, Try.ntmps18
  go_upto_region 4 with fail
  go_loopw [5] (fun iv wr => ∃ k : Nat, k ≤ m ∧ iv = .int .i64 (k : Nat) ∧ Below w.heap.size w wr) (fun iv _ => m - (intOf iv).toNat)
  case atStart => exact ⟨0, Nat.zero_le _, rfl, brefl w⟩
  case round =>
    obtain ⟨k, hk, rfl, hb⟩ := hrel
    rename World => wr
    have HB := Lib.hid hb
    clear hb
    by_cases c : k < m
    · have e1 : decide ((k : Int) < (m : Int)) = true := decide_eq_true (by omega)
      have k1 : (k : Int) < (m : Int) := by omega
      have k0 : (0 : Int) ≤ (k : Int) := by omega
      obtain ⟨x, hx⟩ : ∃ x, L[k]? = some x := ⟨_, List.getElem?_eq_getElem (by rw [HM.out]; exact c)⟩
      obtain ⟨y, hy⟩ : ∃ y, L'[k]? = some y := ⟨_, List.getElem?_eq_getElem (by rw [HM'.out]; exact c)⟩
      have exy : y.1 = x.1 := by
        have := congrArg (fun l => l[k]?) HH.out
        simp only [List.getElem?_map, hx, hy, Option.map_some, Option.some.injEq] at this
        exact this.symm
      have F2 := HF.out.below HB.out
      have G2 := HG.out.below HB.out
      obtain ⟨b, off, rfl, hbb, rg, hS⟩ := F2.at hx
      obtain ⟨b', off', rfl, hbb', rh, hT⟩ := G2.at hy
      obtain ⟨f, fv⟩ := x
      obtain ⟨f', fv'⟩ := y
      simp only at rg hS rh hT exy
      subst exy
      obtain ⟨fa, fc, ef⟩ := hS.form
      obtain ⟨ha, hc, eh⟩ := hT.form
      subst ef eh
      rename Fr => f
      have KF : Hid (∀ w', Below wr.heap.size wr w' → w'.rangeAt b (off + k * 10) (fvs f (.slice fa f.dat.length fc))) := Lib.hid fun w' q => range_below rg hbb q
      have KH : Hid (∀ w', Below wr.heap.size wr w' → w'.rangeAt b' (off' + k * 10) (fvs f (.slice ha f.dat.length hc))) := Lib.hid fun w' q => range_below rh hbb' q
      have SM : Hid (∀ z, Below wr.heap.size wr z → Calls Try.prog 13 #[FV f (.slice fa f.dat.length fc), FV f (.slice ha f.dat.length hc)] z fun e w' => e = .returned (.bool true) ∧ Below z.heap.size z w') := Lib.hid fun z q => Same_true (hS.below q) (hT.below q)
      clear rg rh F2 G2 hS hT hx hy hbb hbb'
      go_upto_region 6 with fail
      refine wp_region_held_drew (S := fun w' => Below wr.heap.size wr w') (by kernel_rfl) ((brefl wr).drew) (fun hHeld => ?_)
      refine wpAnyH_take (i := 0) (v := ?_) rfl (by kernel_rfl) (by kernel_rfl) (by kernel_rfl) (fun _ _ _ h => h) (Or.inl ⟨by rfl, ?_⟩) hHeld ?_
      rotate_left
      · ((intro w _; go_simp); try with_reducible rfl)
      (try simp only [List.getElem_toArray, List.getElem_cons_succ, List.getElem_cons_zero, Act.put, List.setIfInBounds_toArray, List.set_cons_zero, List.set_cons_succ])
      refine wpAnyH_take (i := 1) (v := ?_) rfl (by kernel_rfl) (by kernel_rfl) (by kernel_rfl) (fun _ _ _ h => h) (Or.inl ⟨by rfl, ?_⟩) hHeld ?_
      rotate_left
      · ((intro w _; go_simp); try with_reducible rfl)
      (try simp only [List.getElem_toArray, List.getElem_cons_succ, List.getElem_cons_zero, Act.put, List.setIfInBounds_toArray, List.set_cons_zero, List.set_cons_succ])
      refine wpAnyH_take (i := 2) (v := ?_) rfl (by kernel_rfl) (by kernel_rfl) (by kernel_rfl) (fun _ _ _ h => h) (Or.inl ⟨by rfl, ?_⟩) hHeld ?_
      rotate_left
      · ((intro w _; go_simp); try with_reducible rfl)
      (try simp only [List.getElem_toArray, List.getElem_cons_succ, List.getElem_cons_zero, Act.put, List.setIfInBounds_toArray, List.set_cons_zero, List.set_cons_succ])
      refine wpAnyH_take (i := 3) rfl (by kernel_rfl) (by kernel_rfl) (by kernel_rfl) (fun _ _ _ h => h) (yieldsIf_load_mid (by rfl) 24 _ rfl _ _ rfl (fvs f (.slice fa f.dat.length fc)) _ (fun w h => KF.out w h) Try.underlying24 rfl (by exact info_fr)) hHeld ?_
      (try simp only [List.getElem_toArray, List.getElem_cons_succ, List.getElem_cons_zero, Act.put, List.setIfInBounds_toArray, List.set_cons_zero, List.set_cons_succ])
      refine wpAnyH_take (i := 4) (v := ?_) rfl (by kernel_rfl) (by kernel_rfl) (by kernel_rfl) (fun _ _ _ h => h) (Or.inl ⟨by rfl, ?_⟩) hHeld ?_
      rotate_left
      · ((intro w _; go_simp); try with_reducible rfl)
      (try simp only [List.getElem_toArray, List.getElem_cons_succ, List.getElem_cons_zero, Act.put, List.setIfInBounds_toArray, List.set_cons_zero, List.set_cons_succ])
      refine wpAnyH_take (i := 5) (v := ?_) rfl (by kernel_rfl) (by kernel_rfl) (by kernel_rfl) (fun _ _ _ h => h) (Or.inl ⟨by rfl, ?_⟩) hHeld ?_
      rotate_left
      · ((intro w _; go_simp); try with_reducible rfl)
      (try simp only [List.getElem_toArray, List.getElem_cons_succ, List.getElem_cons_zero, Act.put, List.setIfInBounds_toArray, List.set_cons_zero, List.set_cons_succ])
      refine wpAnyH_take (i := 6) (v := ?_) rfl (by kernel_rfl) (by kernel_rfl) (by kernel_rfl) (fun _ _ _ h => h) (Or.inl ⟨by rfl, ?_⟩) hHeld ?_
      rotate_left
      · ((intro w _; go_simp); try with_reducible rfl)
      (try simp only [List.getElem_toArray, List.getElem_cons_succ, List.getElem_cons_zero, Act.put, List.setIfInBounds_toArray, List.set_cons_zero, List.set_cons_succ])
      refine wpAnyH_take (i := 7) rfl (by kernel_rfl) (by kernel_rfl) (by kernel_rfl) (fun _ _ _ h => h) (yieldsIf_load_mid (by rfl) 24 _ rfl _ _ rfl (fvs f (.slice ha f.dat.length hc)) _ (fun w h => KH.out w h) Try.underlying24 rfl (by exact info_fr)) hHeld ?_
      (try simp only [List.getElem_toArray, List.getElem_cons_succ, List.getElem_cons_zero, Act.put, List.setIfInBounds_toArray, List.set_cons_zero, List.set_cons_succ])
      refine wpAnyH_ready (rs := [8]) (by kernel_rfl) (by simp) (AllReadyH.cons rfl (fun KQ hKQ => ?_) AllReadyH.nil)
      go_simp
      refine (SM.out _ hHeld).mono ?_
      rintro e w' ⟨rfl, hb⟩
      replace hHeld := bstep hHeld hb
      clear hb
      go_wp2_with fail
      refine hKQ.out _ _ hHeld (fun hH2 => ?_)
      clear hKQ KQ hHeld
      have hHeld := hH2
      clear hH2
      (try simp only [List.getElem_toArray, List.getElem_cons_succ, List.getElem_cons_zero, Act.put, List.setIfInBounds_toArray, List.set_cons_zero, List.set_cons_succ])
      refine wpAnyH_take (i := 9) (v := ?_) rfl (by kernel_rfl) (by kernel_rfl) (by kernel_rfl) (fun _ _ _ h => h) (Or.inl ⟨by rfl, ?_⟩) hHeld ?_
      rotate_left
      · ((intro w _; go_simp); try with_reducible rfl)
      (try simp only [List.getElem_toArray, List.getElem_cons_succ, List.getElem_cons_zero, Act.put, List.setIfInBounds_toArray, List.set_cons_zero, List.set_cons_succ])
      refine wpAnyH_done (by kernel_rfl) ?_ _
      have BW := Lib.hid (bstep HB.out hHeld)
      clear hHeld
      go_wp2_with fail
      exact ⟨⟨k + 1, by omega, by go_num, BW.out⟩, by simp [intOf]; omega⟩
    · have e1 : decide ((k : Int) < (m : Int)) = false := decide_eq_false (by omega)
      go_wp2_with fail
      go_ret
      exact ⟨rfl, HB.out⟩
theorem open_rows {H : Type} {enc : TypeId × Value → H} {W : World} {base : Nat} {v : Value} {d : DataW H} {pl : List MemPlace}
    (hv : Value.okWide Try.prog W .any base 37 v) (h : DataW.Trod enc Try.prog W 0 (fun _ => true) true 37 v d pl)
    (hw : ∀ y ∈ DataW.weights Try.prog 37 d, y ≤ reachBytes) : ∃ L, Fl W v L := by
  obtain ⟨a0, len, cap, rfl⟩ := okWide_slice Try.underlying37 hv
  obtain ⟨fuel, hf⟩ := h
  exact open_frs (fuel := fuel) (by simpa [Value.cells] using hf) hw
end Go.Proofs.Yteigmnbbfmcihaa.Ct
