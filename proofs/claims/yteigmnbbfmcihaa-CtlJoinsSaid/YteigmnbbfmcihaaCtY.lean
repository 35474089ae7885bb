/-
  The contract of ctl.Join.
  Conditions: none.
-/
import Derived.Test.YteigmnbbfmcihaaCtW
import Derived.Test.YteigmnbbfmcihaaCtX
import Derived.Deep.RegionHeld3
import Derived.BigRegion
import Derived.Shelf.SlSortCmp.NoneTotal
namespace Go.Proofs.Yteigmnbbfmcihaa.Ct
open Go.RowKit Go.ChangeShapes Go.WideShapes Go.ChangeAt Go.Joins By
set_option linter.unusedVariables false
set_option linter.unusedSimpArgs false

theorem sort_any {w0 w : World} {v : Value} {L : List El} (h : OwnR w w0.heap.size v (L.map elv)) (hn : L.length ≤ 1000) (hS : ∀ x ∈ L.map elv, Sl w0 x.2 x.1.dat) (B0 : Below w0.heap.size w0 w) :
    Calls Try.prog 34 #[v, .func (.func 35) #[] #[]] w fun e w' => e = .returned (.tuple #[]) ∧ Below w0.heap.size w0 w' ∧ ∃ M : List El, M.Perm L ∧ M.Pairwise (fun a b => ¬ b.1.off < a.1.off) ∧ Fl w' v (M.map elv) := by
  by_cases hp : 0 < L.length
  · exact sort_c h hp hn hS B0
  · obtain rfl : L = [] := List.eq_nil_of_length_eq_zero (by omega)
    have F : Fl w v [] := Rowf.fl (base := w0.heap.size) ⟨h, fun x hx => (by cases hx)⟩ (fun x hx => (by cases hx))
    obtain ⟨a, cap, rfl⟩ := F.form
    have hcon := AnyF.slices_SortFunc_none sortFr a cap (.func (.func 35) #[] #[]) w
    refine hcon.mono ?_
    rintro e w' ⟨rfl, rfl⟩
    exact ⟨rfl, B0, [], List.Perm.refl _, List.Pairwise.nil, F⟩
set_option maxRecDepth 100000 in
set_option maxHeartbeats 16000000 in
theorem Join_any {w : World} {v : Value} {L : List (Fr × Value)} (F : Fl w v L) (hn : L.length ≤ 1000) : Calls Try.prog 16 #[v] w fun e w' => PJoin (L.map Prod.fst) w e w' := by
  obtain ⟨a, cap, rfl⟩ := F.form
  have HF := Lib.hid F
  have hcap : L.length ≤ cap ∧ cap ≤ 9223372036854775807 := by obtain ⟨_, _, e, h, h', _⟩ := F; cases e; exact ⟨h, h'⟩
  obtain ⟨m, hm⟩ : ∃ m, L.length = m := ⟨_, rfl⟩
  have HM := Lib.hid hm
  have HL : Hid ((L.map Prod.fst).length = m) := Lib.hid (by rw [List.length_map, hm])
  rw [hm] at hcap hn HF ⊢
  have m0 : (0 : Int) ≤ (m : Int) := by omega
  have m1 : (m : Int) ≤ 1000 := by omega
  have m2 : (m : Int) ≤ (cap : Int) := by omega
  have m3 : (cap : Int) ≤ 9223372036854775807 := by omega
  obtain ⟨fs, hfs⟩ : ∃ fs, L.map Prod.fst = fs := ⟨_, rfl⟩
  have HFS := Lib.hid hfs
  rw [hfs] at HL ⊢
  clear F hcap hm hfs
  go_enter Try.func16, Try.ntmps16
  go_upto_region 2 with fail
  go_loopw [12] (fun iv wr => ∃ k : Nat, k ≤ m ∧ iv = .int .i64 (k : Nat) ∧ (∀ x ∈ fs.take k, okFr x = true ∧ like x (fs.headD fr0) = true) ∧ Below w.heap.size w wr) (fun iv _ => m - (intOf iv).toNat)
  case atStart => exact ⟨0, Nat.zero_le _, rfl, fun x h => (by cases h), brefl w⟩
  case round =>
    obtain ⟨k, hk, rfl, hall, hb⟩ := hrel
    rename World => wr
    have HB := Lib.hid hb
    have HA := Lib.hid hall
    clear hb hall
    by_cases c : k < m
    · have e1 : decide ((k : Int) < (m : Int)) = true := decide_eq_true (by omega)
      have k1 : (k : Int) < (m : Int) := by omega
      have z1 : (0 : Int) < (m : Int) := by omega
      have z2 : 0 < m := by omega
      have z3 : ¬ m = 0 := by omega
      obtain ⟨x, hx⟩ : ∃ x, L[k]? = some x := ⟨_, List.getElem?_eq_getElem (by rw [HM.out]; exact c)⟩
      obtain ⟨y, hy⟩ : ∃ y, L[0]? = some y := ⟨_, List.getElem?_eq_getElem (by rw [HM.out]; omega)⟩
      have F2 := HF.out.below HB.out
      rw [← HM.out] at F2
      obtain ⟨b, off, rfl, hbb, rg, hS⟩ := F2.at hx
      obtain ⟨b', off', e', _, rh, hT⟩ := F2.at hy
      cases e'
      have hfx : fs[k]? = some x.1 := by rw [← HFS.out, List.getElem?_map, hx]; rfl
      have hfy : fs.headD fr0 = y.1 := by rw [← HFS.out]; cases L with | nil => simp at hy | cons p q => simp at hy; rw [← hy]; rfl
      obtain ⟨f, fv⟩ := x
      obtain ⟨hf, hv⟩ := y
      simp only at rg hS hfx rh hT hfy
      obtain ⟨fa, fc, ef⟩ := hS.form
      obtain ⟨ha, hc, eh⟩ := hT.form
      subst ef eh
      have RG := Lib.hid rg
      have HR : Hid (∀ i v, (fvs hf (.slice ha hf.dat.length hc))[i]? = some v → wr.cell? ⟨b, off + i, none⟩ = some v) := Lib.hid fun i v h => by have := rh i v h; rwa [Nat.zero_mul, Nat.add_zero] at this
      have HX := Lib.hid hfx
      have HY := Lib.hid hfy
      have BA := Lib.hid (balloc (brefl wr) (.cells #[.int .i64 f.ver, .bool f.resp, .bool f.er, .bool f.more, .int .i64 f.op, .int .i64 f.seq, .int .i64 f.st, .int .i64 f.asc, .int .i64 f.off, .slice fa f.dat.length fc] 24))
      have NA : Hid (Blk (wr.alloc (.cells #[.int .i64 f.ver, .bool f.resp, .bool f.er, .bool f.more, .int .i64 f.op, .int .i64 f.seq, .int .i64 f.st, .int .i64 f.asc, .int .i64 f.off, .slice fa f.dat.length fc] 24)) wr.heap.size (fvs f (.slice fa f.dat.length fc))) := Lib.hid (Blk.new' wr #[.int .i64 f.ver, .bool f.resp, .bool f.er, .bool f.more, .int .i64 f.op, .int .i64 f.seq, .int .i64 f.st, .int .i64 f.asc, .int .i64 f.off, .slice fa f.dat.length fc] 24)
      have hdl : f.dat.length ≤ 140737488351232 := hS.1
      have IS := Lib.hid (fun z => isFrame_c f fa fc hdl z)
      have LK := Lib.hid (fun z => isLike_c f hf fa ha fc hc z)
      clear rg rh F2 hS hT hx hy hfx hfy hdl
      go_upto_region 4 with (refine wpList_load_mid rfl 24 _ rfl _ _ rfl [.int .i64 f.ver, .bool f.resp, .bool f.er, .bool f.more, .int .i64 f.op, .int .i64 f.seq, .int .i64 f.st, .int .i64 f.asc, .int .i64 f.off, .slice fa f.dat.length fc] _ RG.out Try.underlying24 rfl (by exact info_fr) ?_)
      generalize wr.alloc (.cells #[.int .i64 f.ver, .bool f.resp, .bool f.er, .bool f.more, .int .i64 f.op, .int .i64 f.seq, .int .i64 f.st, .int .i64 f.asc, .int .i64 f.off, .slice fa f.dat.length fc] 24) = wa at *
      have bw : b < wa.heap.size := Nat.lt_of_lt_of_le hbb BA.out.size
      have KP : Hid (∀ w', Below wa.heap.size wa w' → w'.cell? ⟨wr.heap.size, 0, none⟩ = some (.int .i64 f.ver) ∧ w'.cell? ⟨wr.heap.size, 1, none⟩ = some (.bool f.resp) ∧ w'.cell? ⟨wr.heap.size, 2, none⟩ = some (.bool f.er) ∧ w'.cell? ⟨wr.heap.size, 3, none⟩ = some (.bool f.more) ∧ w'.cell? ⟨wr.heap.size, 4, none⟩ = some (.int .i64 f.op) ∧ w'.cell? ⟨wr.heap.size, 5, none⟩ = some (.int .i64 f.seq) ∧ w'.cell? ⟨wr.heap.size, 6, none⟩ = some (.int .i64 f.st) ∧ w'.cell? ⟨wr.heap.size, 7, none⟩ = some (.int .i64 f.asc) ∧ w'.cell? ⟨wr.heap.size, 8, none⟩ = some (.int .i64 f.off) ∧ w'.cell? ⟨wr.heap.size, 9, none⟩ = some (.slice fa f.dat.length fc) ∧ w'.cell? ⟨b, off, none⟩ = some (.int .i64 hf.ver) ∧ w'.cell? ⟨b, off + 1, none⟩ = some (.bool hf.resp) ∧ w'.cell? ⟨b, off + 2, none⟩ = some (.bool hf.er) ∧ w'.cell? ⟨b, off + 3, none⟩ = some (.bool hf.more) ∧ w'.cell? ⟨b, off + 4, none⟩ = some (.int .i64 hf.op) ∧ w'.cell? ⟨b, off + 5, none⟩ = some (.int .i64 hf.seq) ∧ w'.cell? ⟨b, off + 6, none⟩ = some (.int .i64 hf.st) ∧ w'.cell? ⟨b, off + 7, none⟩ = some (.int .i64 hf.asc) ∧ w'.cell? ⟨b, off + 8, none⟩ = some (.int .i64 hf.off) ∧ w'.cell? ⟨b, off + 9, none⟩ = some (.slice ha hf.dat.length hc)) := Lib.hid fun w' q => by
        have HR := Lib.hid (fun i v h => (BA.out.cell (p := ⟨b, off + i, none⟩) hbb).trans (HR.out i v h))
        exact ⟨(q.cell (p := ⟨wr.heap.size, 0, none⟩) NA.out.1).trans (NA.out.2 0 _ rfl).1, (q.cell (p := ⟨wr.heap.size, 1, none⟩) NA.out.1).trans (NA.out.2 1 _ rfl).1, (q.cell (p := ⟨wr.heap.size, 2, none⟩) NA.out.1).trans (NA.out.2 2 _ rfl).1, (q.cell (p := ⟨wr.heap.size, 3, none⟩) NA.out.1).trans (NA.out.2 3 _ rfl).1, (q.cell (p := ⟨wr.heap.size, 4, none⟩) NA.out.1).trans (NA.out.2 4 _ rfl).1, (q.cell (p := ⟨wr.heap.size, 5, none⟩) NA.out.1).trans (NA.out.2 5 _ rfl).1, (q.cell (p := ⟨wr.heap.size, 6, none⟩) NA.out.1).trans (NA.out.2 6 _ rfl).1, (q.cell (p := ⟨wr.heap.size, 7, none⟩) NA.out.1).trans (NA.out.2 7 _ rfl).1, (q.cell (p := ⟨wr.heap.size, 8, none⟩) NA.out.1).trans (NA.out.2 8 _ rfl).1, (q.cell (p := ⟨wr.heap.size, 9, none⟩) NA.out.1).trans (NA.out.2 9 _ rfl).1, (q.cell (p := ⟨b, off, none⟩) bw).trans (HR.out 0 _ rfl), (q.cell (p := ⟨b, off + 1, none⟩) bw).trans (HR.out 1 _ rfl), (q.cell (p := ⟨b, off + 2, none⟩) bw).trans (HR.out 2 _ rfl), (q.cell (p := ⟨b, off + 3, none⟩) bw).trans (HR.out 3 _ rfl), (q.cell (p := ⟨b, off + 4, none⟩) bw).trans (HR.out 4 _ rfl), (q.cell (p := ⟨b, off + 5, none⟩) bw).trans (HR.out 5 _ rfl), (q.cell (p := ⟨b, off + 6, none⟩) bw).trans (HR.out 6 _ rfl), (q.cell (p := ⟨b, off + 7, none⟩) bw).trans (HR.out 7 _ rfl), (q.cell (p := ⟨b, off + 8, none⟩) bw).trans (HR.out 8 _ rfl), (q.cell (p := ⟨b, off + 9, none⟩) bw).trans (HR.out 9 _ rfl)⟩
      have BW := Lib.hid (bstep HB.out BA.out)
      clear RG NA HR
      have hb0 : Below wa.heap.size wa wa.drew := (brefl wa).drew
      cases c1 : okFr f with
      | false =>
        have HSH := Lib.hid (jE_shp (L := fs) (by
          cases q : shp fs with
          | false => rfl
          | true => exact absurd (shp_mem q f (List.mem_of_getElem? HX.out)).1 (by rw [c1]; decide)))
        rw [c1] at IS
        obtain ⟨y0, y1, y2, y3, y4, y5, y6, y7, y8, y9, y10, y11, y12, y13, y14, y15, y16, y17, y18, y19⟩ := KP.out _ (brefl wa)
        refine wp_region_held_drew (S := fun w' => Below wa.heap.size wa w') (by kernel_rfl) hb0 (fun _ => ?_)
        refine wpAnyH_ready (rs := [0]) (by kernel_rfl) (by simp) (AllReadyH.cons rfl (fun K hK => ?_) AllReadyH.nil)
        · go_simp
          refine hK.out _ _ (by assumption) (fun _ => ?_)
          clear hK K
          (try simp only [Act.put, List.setIfInBounds_toArray, List.set_cons_zero, List.set_cons_succ])
          refine wpAnyH_ready (rs := [1]) (by kernel_rfl) (by simp) (AllReadyH.cons rfl (fun K hK => ?_) AllReadyH.nil)
          · go_simp
            go_at_call 19
            (with_reducible refine (IS.out _).mono ?_)
            rintro e w' ⟨rfl, hb⟩
            replace hb := bstep hb0 hb
            go_wp2_with fail
            refine hK.out _ _ (by assumption) (fun _ => ?_)
            clear hK K
            (try simp only [Act.put, List.setIfInBounds_toArray, List.set_cons_zero, List.set_cons_succ])
            refine wpAnyH_ready (rs := [2]) (by kernel_rfl) (by simp) (AllReadyH.cons rfl (fun K hK => ?_) AllReadyH.nil)
            · go_simp
              refine hK.out _ _ (by assumption) (fun _ => ?_)
              clear hK K
              (try simp only [Act.put, List.setIfInBounds_toArray, List.set_cons_zero, List.set_cons_succ])
              refine wpAnyH_ready (rs := [3]) (by kernel_rfl) (by simp) (AllReadyH.cons rfl (fun K hK => ?_) AllReadyH.nil)
              · go_simp
                refine hK.out _ _ (by assumption) (fun _ => ?_)
                clear hK K
                (try simp only [Act.put, List.setIfInBounds_toArray, List.set_cons_zero, List.set_cons_succ])
                refine wpAnyH_ready (rs := [4, 5]) (by kernel_rfl) (by simp) (AllReadyH.cons rfl (fun K hK => ?_) (AllReadyH.cons rfl (fun K hK => ?_) AllReadyH.nil))
                · go_simp
                  refine hK.out _ _ (by assumption) (fun _ => ?_)
                  clear hK K
                  (try simp only [Act.put, List.setIfInBounds_toArray, List.set_cons_zero, List.set_cons_succ])
                  refine wpAnyH_ready (rs := [5]) (by kernel_rfl) (by simp) (AllReadyH.cons rfl (fun K hK => ?_) AllReadyH.nil)
                  · go_simp
                    refine hK.out _ _ (by assumption) (fun _ => ?_)
                    clear hK K
                    (try simp only [Act.put, List.setIfInBounds_toArray, List.set_cons_zero, List.set_cons_succ])
                    refine wpAnyH_ready (rs := [6]) (by kernel_rfl) (by simp) (AllReadyH.cons rfl (fun K hK => ?_) AllReadyH.nil)
                    · go_simp
                      refine hK.out _ _ (by assumption) (fun _ => ?_)
                      clear hK K
                      (try simp only [Act.put, List.setIfInBounds_toArray, List.set_cons_zero, List.set_cons_succ])
                      refine wpAnyH_ready (rs := [7]) (by kernel_rfl) (by simp) (AllReadyH.cons rfl (fun K hK => ?_) AllReadyH.nil)
                      · go_simp
                        refine hK.out _ _ (by assumption) (fun _ => ?_)
                        clear hK K
                        (try simp only [Act.put, List.setIfInBounds_toArray, List.set_cons_zero, List.set_cons_succ])
                        refine wpAnyH_ready (rs := [8]) (by kernel_rfl) (by simp) (AllReadyH.cons rfl (fun K hK => ?_) AllReadyH.nil)
                        · go_simp
                          refine hK.out _ _ (by assumption) (fun _ => ?_)
                          clear hK K
                          (try simp only [Act.put, List.setIfInBounds_toArray, List.set_cons_zero, List.set_cons_succ])
                          refine wpAnyH_ready (rs := [9]) (by kernel_rfl) (by simp) (AllReadyH.cons rfl (fun K hK => ?_) AllReadyH.nil)
                          · go_simp
                            refine hK.out _ _ (by assumption) (fun _ => ?_)
                            clear hK K
                            (try simp only [Act.put, List.setIfInBounds_toArray, List.set_cons_zero, List.set_cons_succ])
                            refine wpAnyH_ready (rs := [10]) (by kernel_rfl) (by simp) (AllReadyH.cons rfl (fun K hK => ?_) AllReadyH.nil)
                            · go_simp
                              refine hK.out _ _ (by assumption) (fun _ => ?_)
                              clear hK K
                              (try simp only [Act.put, List.setIfInBounds_toArray, List.set_cons_zero, List.set_cons_succ])
                              refine wpAnyH_done (by kernel_rfl) ?_ _
                              go_wp2_with fail
                              go_ret2
                              exact ⟨⟨_, by rw [HSH.out.1]; rfl, by rw [HSH.out.2]; exact Own.nil _ _⟩, bstep BW.out hb⟩
                · go_simp
                  refine hK.out _ _ (by assumption) (fun _ => ?_)
                  clear hK K
                  (try simp only [Act.put, List.setIfInBounds_toArray, List.set_cons_zero, List.set_cons_succ])
                  refine wpAnyH_ready (rs := [4, 6]) (by kernel_rfl) (by simp) (AllReadyH.cons rfl (fun K hK => ?_) (AllReadyH.cons rfl (fun K hK => ?_) AllReadyH.nil))
                  · go_simp
                    refine hK.out _ _ (by assumption) (fun _ => ?_)
                    clear hK K
                    (try simp only [Act.put, List.setIfInBounds_toArray, List.set_cons_zero, List.set_cons_succ])
                    refine wpAnyH_ready (rs := [6]) (by kernel_rfl) (by simp) (AllReadyH.cons rfl (fun K hK => ?_) AllReadyH.nil)
                    · go_simp
                      refine hK.out _ _ (by assumption) (fun _ => ?_)
                      clear hK K
                      (try simp only [Act.put, List.setIfInBounds_toArray, List.set_cons_zero, List.set_cons_succ])
                      refine wpAnyH_ready (rs := [7]) (by kernel_rfl) (by simp) (AllReadyH.cons rfl (fun K hK => ?_) AllReadyH.nil)
                      · go_simp
                        refine hK.out _ _ (by assumption) (fun _ => ?_)
                        clear hK K
                        (try simp only [Act.put, List.setIfInBounds_toArray, List.set_cons_zero, List.set_cons_succ])
                        refine wpAnyH_ready (rs := [8]) (by kernel_rfl) (by simp) (AllReadyH.cons rfl (fun K hK => ?_) AllReadyH.nil)
                        · go_simp
                          refine hK.out _ _ (by assumption) (fun _ => ?_)
                          clear hK K
                          (try simp only [Act.put, List.setIfInBounds_toArray, List.set_cons_zero, List.set_cons_succ])
                          refine wpAnyH_ready (rs := [9]) (by kernel_rfl) (by simp) (AllReadyH.cons rfl (fun K hK => ?_) AllReadyH.nil)
                          · go_simp
                            refine hK.out _ _ (by assumption) (fun _ => ?_)
                            clear hK K
                            (try simp only [Act.put, List.setIfInBounds_toArray, List.set_cons_zero, List.set_cons_succ])
                            refine wpAnyH_ready (rs := [10]) (by kernel_rfl) (by simp) (AllReadyH.cons rfl (fun K hK => ?_) AllReadyH.nil)
                            · go_simp
                              refine hK.out _ _ (by assumption) (fun _ => ?_)
                              clear hK K
                              (try simp only [Act.put, List.setIfInBounds_toArray, List.set_cons_zero, List.set_cons_succ])
                              refine wpAnyH_done (by kernel_rfl) ?_ _
                              go_wp2_with fail
                              go_ret2
                              exact ⟨⟨_, by rw [HSH.out.1]; rfl, by rw [HSH.out.2]; exact Own.nil _ _⟩, bstep BW.out hb⟩
                  · go_simp
                    refine hK.out _ _ (by assumption) (fun _ => ?_)
                    clear hK K
                    (try simp only [Act.put, List.setIfInBounds_toArray, List.set_cons_zero, List.set_cons_succ])
                    refine wpAnyH_ready (rs := [4, 7]) (by kernel_rfl) (by simp) (AllReadyH.cons rfl (fun K hK => ?_) (AllReadyH.cons rfl (fun K hK => ?_) AllReadyH.nil))
                    · go_simp
                      refine hK.out _ _ (by assumption) (fun _ => ?_)
                      clear hK K
                      (try simp only [Act.put, List.setIfInBounds_toArray, List.set_cons_zero, List.set_cons_succ])
                      refine wpAnyH_ready (rs := [7]) (by kernel_rfl) (by simp) (AllReadyH.cons rfl (fun K hK => ?_) AllReadyH.nil)
                      · go_simp
                        refine hK.out _ _ (by assumption) (fun _ => ?_)
                        clear hK K
                        (try simp only [Act.put, List.setIfInBounds_toArray, List.set_cons_zero, List.set_cons_succ])
                        refine wpAnyH_ready (rs := [8]) (by kernel_rfl) (by simp) (AllReadyH.cons rfl (fun K hK => ?_) AllReadyH.nil)
                        · go_simp
                          refine hK.out _ _ (by assumption) (fun _ => ?_)
                          clear hK K
                          (try simp only [Act.put, List.setIfInBounds_toArray, List.set_cons_zero, List.set_cons_succ])
                          refine wpAnyH_ready (rs := [9]) (by kernel_rfl) (by simp) (AllReadyH.cons rfl (fun K hK => ?_) AllReadyH.nil)
                          · go_simp
                            refine hK.out _ _ (by assumption) (fun _ => ?_)
                            clear hK K
                            (try simp only [Act.put, List.setIfInBounds_toArray, List.set_cons_zero, List.set_cons_succ])
                            refine wpAnyH_ready (rs := [10]) (by kernel_rfl) (by simp) (AllReadyH.cons rfl (fun K hK => ?_) AllReadyH.nil)
                            · go_simp
                              refine hK.out _ _ (by assumption) (fun _ => ?_)
                              clear hK K
                              (try simp only [Act.put, List.setIfInBounds_toArray, List.set_cons_zero, List.set_cons_succ])
                              refine wpAnyH_done (by kernel_rfl) ?_ _
                              go_wp2_with fail
                              go_ret2
                              exact ⟨⟨_, by rw [HSH.out.1]; rfl, by rw [HSH.out.2]; exact Own.nil _ _⟩, bstep BW.out hb⟩
                    · go_simp
                      refine hK.out _ _ (by assumption) (fun _ => ?_)
                      clear hK K
                      (try simp only [Act.put, List.setIfInBounds_toArray, List.set_cons_zero, List.set_cons_succ])
                      refine wpAnyH_ready (rs := [4]) (by kernel_rfl) (by simp) (AllReadyH.cons rfl (fun K hK => ?_) AllReadyH.nil)
                      · go_simp
                        refine hK.out _ _ (by assumption) (fun _ => ?_)
                        clear hK K
                        (try simp only [Act.put, List.setIfInBounds_toArray, List.set_cons_zero, List.set_cons_succ])
                        refine wpAnyH_ready (rs := [8]) (by kernel_rfl) (by simp) (AllReadyH.cons rfl (fun K hK => ?_) AllReadyH.nil)
                        · go_simp
                          refine hK.out _ _ (by assumption) (fun _ => ?_)
                          clear hK K
                          (try simp only [Act.put, List.setIfInBounds_toArray, List.set_cons_zero, List.set_cons_succ])
                          refine wpAnyH_ready (rs := [9]) (by kernel_rfl) (by simp) (AllReadyH.cons rfl (fun K hK => ?_) AllReadyH.nil)
                          · go_simp
                            refine hK.out _ _ (by assumption) (fun _ => ?_)
                            clear hK K
                            (try simp only [Act.put, List.setIfInBounds_toArray, List.set_cons_zero, List.set_cons_succ])
                            refine wpAnyH_ready (rs := [10]) (by kernel_rfl) (by simp) (AllReadyH.cons rfl (fun K hK => ?_) AllReadyH.nil)
                            · go_simp
                              refine hK.out _ _ (by assumption) (fun _ => ?_)
                              clear hK K
                              (try simp only [Act.put, List.setIfInBounds_toArray, List.set_cons_zero, List.set_cons_succ])
                              refine wpAnyH_done (by kernel_rfl) ?_ _
                              go_wp2_with fail
                              go_ret2
                              exact ⟨⟨_, by rw [HSH.out.1]; rfl, by rw [HSH.out.2]; exact Own.nil _ _⟩, bstep BW.out hb⟩
      | true =>
        rw [c1] at IS
        cases c2 : like f hf with
        | false =>
          have HSH := Lib.hid (jE_shp (L := fs) (by
            cases q : shp fs with
            | false => rfl
            | true => exact absurd (shp_mem q f (List.mem_of_getElem? HX.out)).2 (by rw [HY.out, c2]; decide)))
          rw [c2] at LK
          go_region_held3 (fun w' => w'.cell? ⟨wr.heap.size, 0, none⟩ = some (.int .i64 f.ver) ∧ w'.cell? ⟨wr.heap.size, 1, none⟩ = some (.bool f.resp) ∧ w'.cell? ⟨wr.heap.size, 2, none⟩ = some (.bool f.er) ∧ w'.cell? ⟨wr.heap.size, 3, none⟩ = some (.bool f.more) ∧ w'.cell? ⟨wr.heap.size, 4, none⟩ = some (.int .i64 f.op) ∧ w'.cell? ⟨wr.heap.size, 5, none⟩ = some (.int .i64 f.seq) ∧ w'.cell? ⟨wr.heap.size, 6, none⟩ = some (.int .i64 f.st) ∧ w'.cell? ⟨wr.heap.size, 7, none⟩ = some (.int .i64 f.asc) ∧ w'.cell? ⟨wr.heap.size, 8, none⟩ = some (.int .i64 f.off) ∧ w'.cell? ⟨wr.heap.size, 9, none⟩ = some (.slice fa f.dat.length fc) ∧ w'.cell? ⟨b, off, none⟩ = some (.int .i64 hf.ver) ∧ w'.cell? ⟨b, off + 1, none⟩ = some (.bool hf.resp) ∧ w'.cell? ⟨b, off + 2, none⟩ = some (.bool hf.er) ∧ w'.cell? ⟨b, off + 3, none⟩ = some (.bool hf.more) ∧ w'.cell? ⟨b, off + 4, none⟩ = some (.int .i64 hf.op) ∧ w'.cell? ⟨b, off + 5, none⟩ = some (.int .i64 hf.seq) ∧ w'.cell? ⟨b, off + 6, none⟩ = some (.int .i64 hf.st) ∧ w'.cell? ⟨b, off + 7, none⟩ = some (.int .i64 hf.asc) ∧ w'.cell? ⟨b, off + 8, none⟩ = some (.int .i64 hf.off) ∧ w'.cell? ⟨b, off + 9, none⟩ = some (.slice ha hf.dat.length hc))
          (first | exact KP.out _ (by assumption))
          (first | (go_at_call 19; (with_reducible refine (IS.out _).mono ?_); rintro e w' ⟨rfl, hb⟩; replace hb := bstep (by assumption : Below wa.heap.size wa _) hb) | (go_at_call 32; (with_reducible refine (LK.out _).mono ?_); rintro e w' ⟨rfl, hb⟩; replace hb := bstep (by assumption : Below wa.heap.size wa _) hb))
          all_goals
            rename Below wa.heap.size wa _ => hb
            clear KP IS LK
            go_wp2_with fail
            go_ret2
            exact ⟨⟨_, by rw [HSH.out.1]; rfl, by rw [HSH.out.2]; exact Own.nil _ _⟩, bstep BW.out hb⟩
        | true =>
          have HN : Hid (∀ x ∈ fs.take (k + 1), okFr x = true ∧ like x (fs.headD fr0) = true) := Lib.hid (by
            intro x hx
            rw [List.take_add_one, HX.out] at hx
            rcases List.mem_append.1 hx with hx | hx
            · exact HA.out x hx
            · simp at hx
              subst hx
              exact ⟨c1, by rw [HY.out]; exact c2⟩)
          rw [c2] at LK
          go_region_held3 (fun w' => w'.cell? ⟨wr.heap.size, 0, none⟩ = some (.int .i64 f.ver) ∧ w'.cell? ⟨wr.heap.size, 1, none⟩ = some (.bool f.resp) ∧ w'.cell? ⟨wr.heap.size, 2, none⟩ = some (.bool f.er) ∧ w'.cell? ⟨wr.heap.size, 3, none⟩ = some (.bool f.more) ∧ w'.cell? ⟨wr.heap.size, 4, none⟩ = some (.int .i64 f.op) ∧ w'.cell? ⟨wr.heap.size, 5, none⟩ = some (.int .i64 f.seq) ∧ w'.cell? ⟨wr.heap.size, 6, none⟩ = some (.int .i64 f.st) ∧ w'.cell? ⟨wr.heap.size, 7, none⟩ = some (.int .i64 f.asc) ∧ w'.cell? ⟨wr.heap.size, 8, none⟩ = some (.int .i64 f.off) ∧ w'.cell? ⟨wr.heap.size, 9, none⟩ = some (.slice fa f.dat.length fc) ∧ w'.cell? ⟨b, off, none⟩ = some (.int .i64 hf.ver) ∧ w'.cell? ⟨b, off + 1, none⟩ = some (.bool hf.resp) ∧ w'.cell? ⟨b, off + 2, none⟩ = some (.bool hf.er) ∧ w'.cell? ⟨b, off + 3, none⟩ = some (.bool hf.more) ∧ w'.cell? ⟨b, off + 4, none⟩ = some (.int .i64 hf.op) ∧ w'.cell? ⟨b, off + 5, none⟩ = some (.int .i64 hf.seq) ∧ w'.cell? ⟨b, off + 6, none⟩ = some (.int .i64 hf.st) ∧ w'.cell? ⟨b, off + 7, none⟩ = some (.int .i64 hf.asc) ∧ w'.cell? ⟨b, off + 8, none⟩ = some (.int .i64 hf.off) ∧ w'.cell? ⟨b, off + 9, none⟩ = some (.slice ha hf.dat.length hc))
          (first | exact KP.out _ (by assumption))
          (first | (go_at_call 19; (with_reducible refine (IS.out _).mono ?_); rintro e w' ⟨rfl, hb⟩; replace hb := bstep (by assumption : Below wa.heap.size wa _) hb) | (go_at_call 32; (with_reducible refine (LK.out _).mono ?_); rintro e w' ⟨rfl, hb⟩; replace hb := bstep (by assumption : Below wa.heap.size wa _) hb))
          all_goals
            rename Below wa.heap.size wa _ => hb
            clear KP IS LK
            go_wp2_with fail
            exact ⟨⟨k + 1, by omega, by go_num, HN.out, bstep BW.out hb⟩, by simp [intOf]; omega⟩
    · have e1 : decide ((k : Int) < (m : Int)) = false := decide_eq_false (by omega)
      obtain rfl : k = m := by omega
      have SH : Hid (shp fs = true) := Lib.hid (by
        unfold shp
        refine List.all_eq_true.2 fun x hx => ?_
        have := HA.out x (by rw [← HL.out, List.take_length]; exact hx)
        rw [this.1, this.2]; rfl)
      obtain ⟨M0, hM0⟩ := elv_all L (by obtain ⟨_, _, _, _, _, _, h⟩ := HF.out; exact h)
      have HM0 := Lib.hid hM0
      have FL := Lib.hid (HF.out.below HB.out)
      have CL := Lib.hid (CloneF_c FL.out (by rw [HM.out]; exact hn))
      clear hM0 HA
      go_wp2_with fail
      refine CL.out.mono ?_
      rintro e w1 ⟨⟨u, rfl, ou⟩, hb1⟩
      have SC := Lib.hid (sort_any (L := M0) (by rw [HM0.out]; exact ou) (by have := congrArg List.length HM0.out; rw [List.length_map, HM.out] at this; omega) (by rw [HM0.out]; obtain ⟨_, _, _, _, _, _, h⟩ := FL.out; exact h) hb1)
      obtain ⟨ua, uc, rfl⟩ := ownR_form ou
      rw [HM.out] at ou SC ⊢
      clear CL
      go_wp2_with fail
      refine SC.out.mono ?_
      rintro e w2 ⟨rfl, hb2, M, hp, hs, hF2⟩
      obtain ⟨M', hM'⟩ : ∃ M', (M.map elv).map Prod.fst = M' := ⟨_, rfl⟩
      have HP : Hid (M'.Perm fs) := Lib.hid (by rw [← hM', ← HFS.out, ← HM0.out]; exact (hp.map elv).map _)
      have HS : Hid (M'.Pairwise (fun a b => ¬ b.off < a.off)) := Lib.hid (by
        rw [← hM', List.map_map]
        refine List.pairwise_map.2 (hs.imp fun {a b} q => ?_)
        show ¬ b.1.off < a.1.off
        omega)
      obtain ⟨N, hN⟩ : ∃ N, M.map elv = N := ⟨_, rfl⟩
      rw [hN] at hF2 hM'
      have HNL : Hid (N.length = k) := Lib.hid (by have := HP.out.length_eq; rw [← hM', List.length_map, HL.out] at this; exact this)
      have HM' := Lib.hid hM'
      have HF2 := Lib.hid hF2
      have HD : Hid (∀ x ∈ N, x.1.dat.length ≤ 468) := Lib.hid (fun x hx => by
        have : x.1 ∈ fs := HP.out.mem_iff.1 (by rw [← HM'.out]; exact List.mem_map_of_mem hx)
        exact (okFr_cut (shp_mem SH.out _ this).1).2.2.2.2.2.2)
      have HB2 := Lib.hid (bstep HB.out hb2)
      clear hp hs hN hM' hF2 hb2 HM0 FL hb1 ou SC HB HF HFS M M0
      go_upto_region 10 with fail
      go_loopw [7] (fun iv wz => ∃ i : Nat, 1 ≤ i ∧ i ≤ k + 1 ∧ iv = .int .i64 (i : Nat) ∧ (∀ j a b, j + 1 < i → M'[j]? = some a → M'[j + 1]? = some b → b.off ≠ a.off) ∧ Below w2.heap.size w2 wz) (fun iv _ => k + 1 - (intOf iv).toNat)
      case atStart => exact ⟨1, Nat.le_refl _, by omega, rfl, fun j a b h => by omega, brefl w2⟩
      case round =>
        obtain ⟨i, h1, h2, rfl, hne, hbz⟩ := hrel
        rename World => wz
        have HNE := Lib.hid hne
        have HBZ := Lib.hid hbz
        clear hne hbz
        obtain ⟨j, rfl⟩ : ∃ j, i = j + 1 := ⟨i - 1, by omega⟩
        by_cases c2 : j + 1 < k
        · obtain ⟨x, hx⟩ : ∃ x, N[j + 1]? = some x := ⟨_, List.getElem?_eq_getElem (by rw [HNL.out]; exact c2)⟩
          obtain ⟨y, hy⟩ : ∃ y, N[j]? = some y := ⟨_, List.getElem?_eq_getElem (by rw [HNL.out]; omega)⟩
          have F3 := HF2.out.below HBZ.out
          rw [← HNL.out] at F3
          obtain ⟨b, o, rfl, _, rx, _⟩ := F3.at hx
          obtain ⟨b', o', e', _, ry, _⟩ := F3.at hy
          cases e'
          have cx : wz.cell? ⟨b, o + (j + 1) * 10 + 8, none⟩ = some (.int .i64 x.1.off) := rx 8 _ rfl
          have cy : wz.cell? ⟨b, o + j * 10 + 8, none⟩ = some (.int .i64 y.1.off) := ry 8 _ rfl
          have gx : Hid (M'[j + 1]? = some x.1) := Lib.hid (by rw [← HM'.out, List.getElem?_map, hx]; rfl)
          have gy : Hid (M'[j]? = some y.1) := Lib.hid (by rw [← HM'.out, List.getElem?_map, hy]; rfl)
          have j0 : (0 : Int) ≤ (j : Int) := by omega
          have j1 : (j : Int) < (k : Int) := by omega
          have j2 : (j : Int) + 1 < (k : Int) := by omega
          have j3 : (0 : Int) ≤ (j : Int) + 1 := by omega
          have j4 : ((j : Int) + 1).toNat = j + 1 := by omega
          have j5 : IntKind.i64.wrap (j : Int) = (j : Int) := IntWalk.i64_in _ (by omega)
          have j6 : decide ((j : Int) + 1 < (k : Int)) = true := decide_eq_true (by omega)
          have j7 : (j : Int) + 1 - 1 = (j : Int) := by omega
          clear F3 rx ry hx hy
          obtain ⟨x, xv⟩ := x
          obtain ⟨y, yv⟩ := y
          simp only at cx cy gx gy
          by_cases c3 : x.off = y.off
          · have e3 : (x.off == y.off) = true := by simp [c3]
            have HJ := Lib.hid (jE_twice SH.out (fun q => twice_dis gy.out gx.out c3 ((HP.out.map _).nodup_iff.2 q)))
            clear c3
            go_upto_region 12 with fail
            go_quiet (fail)
            go_wp2_with fail
            go_ret2
            exact ⟨⟨_, by rw [HJ.out.1]; rfl, by rw [HJ.out.2]; exact Own.nil _ _⟩, bstep HB2.out (bdrew HBZ.out _)⟩
          · have e3 : (x.off == y.off) = false := by simp [c3]
            have HJ : Hid (∀ j' a b, j' + 1 < j + 1 + 1 → M'[j']? = some a → M'[j' + 1]? = some b → b.off ≠ a.off) := Lib.hid (fun j' a b h ha hb => by
              by_cases q : j' = j
              · subst q
                rw [gy.out] at ha
                rw [gx.out] at hb
                cases ha; cases hb
                exact c3
              · exact HNE.out j' a b (by omega) ha hb)
            clear c3
            go_upto_region 12 with fail
            go_quiet (fail)
            go_wp2_with fail
            exact ⟨⟨j + 1 + 1, by omega, by omega, by go_num, HJ.out, bdrew HBZ.out _⟩, by simp [intOf]; omega⟩
        · have j6 : decide ((j : Int) + 1 < (k : Int)) = false := decide_eq_false (by omega)
          have ST : Hid (M'.Pairwise lt) := Lib.hid (up_strict M' (HS.out.imp fun {a b} q => by omega) fun j' a b ha hb => by
            refine HNE.out j' a b ?_ ha hb
            have := (List.getElem?_eq_some_iff.1 hb).1
            rw [← HM'.out, List.length_map, HNL.out] at this
            omega)
          have JJ := Lib.hid (jE_of HP.out ST.out SH.out)
          have FZ := HF2.out.below HBZ.out
          have JN := Lib.hid (joined_c FZ (by rw [HNL.out]; exact hn) HD.out)
          rw [HM'.out] at JN
          clear FZ
          go_wp2_with fail
          refine JN.out.mono ?_
          rintro e w3 ⟨⟨vd, rfl, od⟩, hb3⟩
          have B3 := Lib.hid (bstep HB2.out (bstep HBZ.out hb3))
          have OD := Lib.hid (od.le (Nat.le_trans HB2.out.size HBZ.out.size))
          clear od hb3 JN
          cases c4 : jok M' with
          | true =>
            rw [c4] at JJ
            go_wp2_with fail
            go_ret2
            exact ⟨⟨_, by rw [JJ.out.1]; rfl, by rw [JJ.out.2]; exact OD.out⟩, B3.out⟩
          | false =>
            have JV := Lib.hid (jv_no c4)
            rw [c4] at JJ
            go_wp2_with fail
            go_ret2
            exact ⟨⟨_, by rw [JJ.out.1]; rfl, by rw [JJ.out.2, JV.out]; exact Own.nil _ _⟩, B3.out⟩
end Go.Proofs.Yteigmnbbfmcihaa.Ct
