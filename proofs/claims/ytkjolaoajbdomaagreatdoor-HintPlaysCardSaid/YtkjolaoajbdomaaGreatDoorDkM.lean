/-
  The document's disk: gone, put, Write, Rename, Remove, Read.
  Conditions: none.
-/
import Derived.Test.YtkjolaoajbdomaaGreatDoorDkL
import Derived.Deep.CutRange
namespace Go.Proofs.YtkjolaoajbdomaaGreatDoor.Dk
open Go.RowKit Go.ChangeShapes Go.WideShapes Go.ChangeAt Go.Joins Go.Maps By Ct
set_option linter.unusedVariables false
set_option linter.unusedSimpArgs false

theorem info_file : (Tryz.prog.info? 84).map (fun i => (i.zero, i.size, i.bytes)) = some (some (.agg #[.string ⟨#[]⟩, .string ⟨#[]⟩]), 2, 32) := by kernel_rfl
/-- one file more. -/
theorem appG {w : World} {base : Nat} {v : Value} {l : List (List UInt8 × List Nat)} (h : OwnG w base v l) (x : List UInt8 × List Nat) (hb : base ≤ w.heap.size) (hn : (l.length + 1) * 32 ≤ 140737488355328) (ty : TypeId) :
    ∃ v' w', (Builtin.append_ #[60, 60] ty #[v, .slice (some ⟨w.heap.size, 0, none⟩) 1 1]).run Tryz.prog (w.alloc (.cells #[.string (st x.1), .string (bs8 x.2)] 84)) = .ok v' w' ∧ OwnG w' base v' (l ++ [x]) ∧ Below base w w' ∧ Gr w v w' v' ∧ (w.alloc (.cells #[.string (st x.1), .string (bs8 x.2)] 84)).grownBy w' v.ownBlock := by
  obtain ⟨i, hi, hz, hs, hby⟩ := info3 info_file
  have one : ∀ u ∈ fc2 x, u.oneCell' = true := fun u hu => by simp [fc2] at hu; rcases hu with rfl | rfl <;> rfl
  obtain ⟨v', w', hr, ho, hg, _, hob⟩ := run_append_own_at (P := Tryz.prog) (w.alloc (.cells #[.string (st x.1), .string (bs8 x.2)] 84)) base 60 ty 84 i (.agg #[.string ⟨#[]⟩, .string ⟨#[]⟩]) 2 32 Tryz.underlying60 hi hz hs hby rfl (by decide) v l.length (fcs l) (World.ownsRow.alloc h _) ⟨w.heap.size, 0, none⟩ 1 1 (fc2 x) rfl
    (by
      intro j u hj
      have e : (⟨w.heap.size, 0, none⟩ : Addr).add j = ⟨w.heap.size, j, none⟩ := by unfold Addr.add; split <;> simp_all
      rw [e, World.cell?_alloc_mark w _ _ (0, 0) j]
      match j, hj with
      | 0, hj => simp [fc2] at hj; subst hj; rfl
      | 1, hj => simp [fc2] at hj; subst hj; rfl
      | j + 2, hj => simp [fc2] at hj) one (by unfold maxLen; omega) (by omega) (by simp; omega)
  have hB : Below base w (w.alloc (.cells #[.string (st x.1), .string (bs8 x.2)] 84)) := (Below.refl base w).alloc hb _
  have hB2 := hB.grown hg (by simp; omega) (fun k hk => (h.lt k hk).1)
  refine ⟨v', w', hr, ?_, hB2, (gr_of hg hob).ahead (balloc (brefl w) _), hg⟩
  unfold OwnG
  rw [List.length_append, fcs_app, show fcs [x] = fc2 x by simp [fcs]]
  exact ho
theorem OwnG.nil (w : World) (base : Nat) : OwnG w base (.slice none 0 0) [] := World.ownsRow_nil w base _ 2
/-- behind a call of the document's disk. -/
def Rt (w w' : World) (d : Nat) (X : Nat → Prop) (s' : Dk) : Prop := ∃ X', Rm w' d s' X' ∧ (∀ k, X' k → X k ∨ w.heap.size ≤ k) ∧ Tu X w w'
theorem Rt.same {w w' : World} {d : Nat} {X : Nat → Prop} {s : Dk} (h : Rm w d s X) (q : Below w.heap.size w w') : Rt w w' d X s := ⟨X, h.below q, fun k hk => .inl hk, tu_below q⟩
theorem Rt.tr {w w1 w' : World} {d : Nat} {X X1 : Nat → Prop} {s' : Dk} (h : Rt w1 w' d X1 s') (hx : ∀ k, X1 k → X k ∨ w.heap.size ≤ k) (ht : Tu X w w1) : Rt w w' d X s' := by
  obtain ⟨X', hp, hx', ht'⟩ := h
  exact ⟨X', hp, fun k hk => (hx' k hk).elim (hx k) (fun q => .inr (Nat.le_trans ht.size q)), ht.tr ht' (fun i hi q => (hx i q).elim id (fun z => by omega))⟩
theorem gone_take {l : List (List UInt8 × List Nat)} {n : List UInt8} {k : Nat} {x : List UInt8 × List Nat} (hx : l[k]? = some x) : gone (l.take (k + 1)) n = if x.1 = n then gone (l.take k) n else gone (l.take k) n ++ [x] := by
  rw [List.take_add_one, hx]
  unfold gone
  rw [List.filter_append]
  by_cases e : x.1 = n
  · rw [if_pos e]; simp [e]
  · rw [if_neg e]; simp [e]
set_option maxRecDepth 100000 in
set_option maxHeartbeats 8000000 in
theorem rgone_c {w : World} {d : Nat} {s : Dk} {X : Nat → Prop} {nm : ByteArray} (h : Rm w d s X) (hl : s.fs.length ≤ 100000) :
    Calls Tryz.prog 40 #[.pointer (some ⟨d, 0, none⟩), .string nm] w fun e w' => e = .returned (.tuple #[]) ∧ Rt w w' d X { s with fs := gone s.fs nm.data.toList } := by
  have H := Lib.hid h
  obtain ⟨v, hb, ho, _⟩ := h.apart
  obtain ⟨a, cap, rfl⟩ := ownG_form ho
  have HB := Lib.hid hb
  obtain ⟨m, hm⟩ : ∃ m, s.fs.length = m := ⟨_, rfl⟩
  have HM := Lib.hid hm
  have HO := Lib.hid ho
  rw [hm] at hl HB
  have m1 : (m : Int) ≤ 100000 := by omega
  have m0 : (0 : Int) ≤ (m : Int) := by omega
  clear hb ho hm h
  go_enter Tryz.func40, Tryz.ntmps40
  go_upto_region 2 with fail
  go_loopw [4, 5] (fun ov iv wr => ∃ k : Nat, k ≤ m ∧ iv = .int .i64 (k : Nat) ∧ OwnG wr w.heap.size ov (gone (s.fs.take k) nm.data.toList) ∧ Below w.heap.size w wr) (fun _ iv _ => m - (intOf iv).toNat)
  case atStart => exact ⟨0, Nat.zero_le _, rfl, OwnG.nil _ _, brefl w⟩
  case round =>
    obtain ⟨k, hk, rfl, hov, hbw⟩ := hrel
    rename World => wr
    have OV := Lib.hid hov
    have BW := Lib.hid hbw
    have c0 := ((HB.out.below hbw).2 0 _ rfl).1
    clear hov hbw
    by_cases c : k < m
    · have e1 : decide ((k : Int) < (m : Int)) = true := decide_eq_true (by omega)
      have k1 : (k : Int) < (m : Int) := by omega
      have k0 : (0 : Int) ≤ (k : Int) := by omega
      obtain ⟨x, hx⟩ : ∃ x, s.fs[k]? = some x := ⟨_, List.getElem?_eq_getElem (by rw [HM.out]; exact c)⟩
      have GT := Lib.hid (gone_take (n := nm.data.toList) hx)
      obtain ⟨g, rfl, _, hc, hcm, cx, cy⟩ := ownG_at (row_below HO.out BW.out : OwnG wr 0 _ s.fs) hx
      rw [HM.out] at hc
      have m2 : (m : Int) ≤ (cap : Int) := by omega
      have m3 : (cap : Int) ≤ 9223372036854775807 := by unfold maxLen at hcm; omega
      obtain ⟨oa, oc, rfl⟩ := ownG_form OV.out
      clear hx hc hcm
      by_cases e : x.1 = nm.data.toList
      · have e2 : ((st x.1).toList == nm.toList) = true := by rw [st_toList, tl, e]; simp
        have e3 : ((st x.1).toList != nm.toList) = false := by rw [st_toList, tl, e]; simp
        have O2 : Hid (OwnG wr w.heap.size (.slice oa (gone (s.fs.take k) nm.data.toList).length oc) (gone (s.fs.take (k + 1)) nm.data.toList)) := Lib.hid (by rw [GT.out, if_pos e]; exact OV.out)
        clear e GT
        go_wp2_with fail
        exact ⟨⟨k + 1, by omega, by go_num, O2.out, BW.out⟩, by simp [intOf]; omega⟩
      · have e2 : ((st x.1).toList == nm.toList) = false := by rw [st_toList, tl]; simpa using e
        have e3 : ((st x.1).toList != nm.toList) = true := by rw [st_toList, tl]; simpa using e
        have hgl : (gone (s.fs.take k) nm.data.toList).length ≤ 100000 := by have := gone_len (s.fs.take k) nm.data.toList; rw [List.length_take] at this; omega
        obtain ⟨v2, w2, r2, o2, b2, _, _⟩ := appG OV.out x BW.out.size (by omega) 60
        have O2 : Hid (OwnG w2 w.heap.size v2 (gone (s.fs.take (k + 1)) nm.data.toList)) := Lib.hid (by rw [GT.out, if_neg e]; exact o2)
        have B2 := Lib.hid (BW.out.trans b2)
        clear e GT o2 b2 hgl
        go_wp2_with (first | (at_builtin; refine wpList_append_eq rfl _ _ 60 rfl _ _ v2 w2 rfl rfl r2 ?_))
        exact ⟨⟨k + 1, by omega, by go_num, O2.out, B2.out⟩, by simp [intOf]; omega⟩
    · have e1 : decide ((k : Int) < (m : Int)) = false := decide_eq_false (by omega)
      obtain rfl : k = m := by omega
      have O2 : Hid (OwnG wr w.heap.size _ (gone s.fs nm.data.toList)) := Lib.hid (by have := OV.out; rwa [← HM.out, List.take_length] at this)
      have f0 := ((HB.out.below BW.out).2 0 _ rfl).2
      obtain ⟨oa, oc, rfl⟩ := ownG_form O2.out
      have BB := HB.out.below BW.out
      have KK : Hid (Rt w (wr.setCell ⟨d, 0, none⟩ (.slice oa (gone s.fs nm.data.toList).length oc)) d X { s with fs := gone s.fs nm.data.toList }) := Lib.hid (by
        have hd := H.out.2.2.1 d H.out.2.1
        have ob : ∀ g, (Value.slice oa (gone s.fs nm.data.toList).length oc).ownBlock = some g → w.heap.size ≤ g ∧ g < wr.heap.size := fun g hg => O2.out.lt g hg
        refine ⟨fun g => X g ∨ (w.heap.size ≤ g ∧ g < wr.heap.size), ⟨⟨gone_nodup _ H.out.1.nodup, fun p hp => H.out.1.name p (gone_mem hp).1, fun p hp => H.out.1.data p (gone_mem hp).1, H.out.1.lo, H.out.1.hi, H.out.1.off, H.out.1.klo, H.out.1.khi⟩, .inl H.out.2.1, fun g hg => ?_, _, blk_set BB 0 _, row_set (row_le O2.out (Nat.zero_le _)) (fun q => by have := ob d q; omega) 0 _, fun g hg => ⟨.inr (ob g hg), fun q => by have := ob g hg; omega⟩⟩, fun g hg => hg.imp id (fun q => q.1), (tu_below BW.out).tr (tu_set (X := X) H.out.2.1) (fun _ _ q => q)⟩
        simp only [World.setCell, Array.size_modify]
        rcases hg with hg | hg
        · exact Nat.lt_of_lt_of_le (H.out.2.2.1 g hg) BW.out.size
        · exact hg.2)
      clear BB O2 OV
      go_wp2_with fail
      go_end0
      exact ⟨rfl, KK.out⟩
end Go.Proofs.YtkjolaoajbdomaaGreatDoor.Dk
