/-
  The contract of ctl.joined.
  Conditions: none.
-/
import Derived.Test.YteigmnbbfmcihaaCtU
import Derived.Test.YteigmnbbfmcihaaCtR
namespace Go.Proofs.Yteigmnbbfmcihaa.Ct
open Go.RowKit Go.ChangeShapes Go.WideShapes Go.ChangeAt Go.Joins By
set_option linter.unusedVariables false
set_option linter.unusedSimpArgs false

/-- whether frames that stand in this order are all of some data; the data. -/
def jok (l : List Fr) : Bool := !l.isEmpty && (jn [] l).isSome
def jv (l : List Fr) : List Nat := if jok l = true then (jn [] l).getD [] else []
theorem jn_at {fs : List Fr} {k : Nat} {f : Fr} (h : fs[k]? = some f) (acc : List Nat) : jn acc (fs.drop k) = if f.off = (acc.length : Int) ∧ f.more = !decide (k + 1 = fs.length) then jn (acc ++ f.dat) (fs.drop (k + 1)) else none := by
  obtain ⟨hk, e⟩ := List.getElem?_eq_some_iff.1 h
  rw [List.drop_eq_getElem_cons hk, e, jn]
  have : (fs.drop (k + 1)).isEmpty = decide (k + 1 = fs.length) := by
    by_cases c : k + 1 = fs.length
    · rw [decide_eq_true c, c, List.drop_length]; rfl
    · rw [decide_eq_false c, List.isEmpty_eq_false_iff]
      intro q
      have := congrArg List.length q
      rw [List.length_drop] at this
      simp only [List.length_nil] at this
      omega
  rw [this]
theorem jok_no {l : List Fr} (h : jn [] l = none) : jok l = false := by unfold jok; rw [h]; simp
theorem jv_no {l : List Fr} (h : jok l = false) : jv l = [] := by unfold jv; rw [h]; rfl
/-- frame j of a row that comes in, as a block's part. -/
theorem Fl.at {w : World} {a : Option Addr} {cap : Nat} {L : List (Fr × Value)} (F : Fl w (.slice a L.length cap) L) {j : Nat} {x : Fr × Value} (h : L[j]? = some x) : ∃ b off, a = some ⟨b, off, none⟩ ∧ b < w.heap.size ∧ w.rangeAt b (off + j * 10) (fvs x.1 x.2) ∧ Sl w x.2 x.1.dat := by
  obtain ⟨hj, e⟩ := List.getElem?_eq_some_iff.1 h
  obtain ⟨a', cap', ev, _, _, hB, hS⟩ := F
  cases ev
  obtain ⟨b, off, ea, hb, B⟩ := hB (by omega)
  refine ⟨b, off, ea, hb, fun i v hi => ?_, hS x (by rw [← e]; exact List.getElem_mem hj)⟩
  have hi10 : i < 10 := (List.getElem?_eq_some_iff.1 hi).1
  rw [B j hj i hi10, List.getD_eq_getElem?_getD, h, Option.getD_some]
  exact hi
set_option maxRecDepth 100000 in
set_option maxHeartbeats 8000000 in
theorem joined_c {w : World} {v : Value} {R : List (Fr × Value)} (F : Fl w v R) (hn : R.length ≤ 1000) (hd : ∀ x ∈ R, x.1.dat.length ≤ 468) : Calls Try.prog 37 #[v] w fun e w' => (∃ u, e = .returned (.tuple #[u, .bool (jok (R.map Prod.fst))]) ∧ Own w' w.heap.size u (jv (R.map Prod.fst))) ∧ Below w.heap.size w w' := by
  obtain ⟨a, cap, rfl⟩ := F.form
  have HF := Lib.hid F
  have hcap : R.length ≤ cap ∧ cap ≤ 9223372036854775807 := by obtain ⟨_, _, e, h, h', _⟩ := F; cases e; exact ⟨h, h'⟩
  have HD := Lib.hid hd
  obtain ⟨m, hm⟩ : ∃ m, R.length = m := ⟨_, rfl⟩
  have HM := Lib.hid hm
  have HL : Hid ((R.map Prod.fst).length = m) := Lib.hid (by rw [List.length_map, hm])
  rw [hm] at hcap hn HF ⊢
  have m0 : (0 : Int) ≤ (m : Int) := by omega
  have m1 : (m : Int) ≤ 1000 := by omega
  have m2 : (m : Int) ≤ (cap : Int) := by omega
  have m3 : (cap : Int) ≤ 9223372036854775807 := by omega
  obtain ⟨fs, hfs⟩ : ∃ fs, R.map Prod.fst = fs := ⟨_, rfl⟩
  have HFS := Lib.hid hfs
  rw [hfs] at HL ⊢
  clear F hd hcap hm hfs
  go_enter Try.func37, Try.ntmps37
  go_upto_region 3 with fail
  go_loopw [4, 10] (fun dv iv wr => ∃ (k : Nat) (acc : List Nat), k ≤ m ∧ iv = .int .i64 (k : Nat) ∧ Own wr w.heap.size dv acc ∧ acc.length ≤ k * 468 ∧ jn [] fs = jn acc (fs.drop k) ∧ Below w.heap.size w wr) (fun _ iv _ => m - (intOf iv).toNat)
  case atStart => exact ⟨0, [], Nat.zero_le _, rfl, Own.nil _ _, Nat.le_refl _, rfl, brefl w⟩
  case round =>
    obtain ⟨k, acc, hk, rfl, ho, hl, hj, hb⟩ := hrel
    rename World => wr
    have HO := Lib.hid ho
    have HB := Lib.hid hb
    have HJ := Lib.hid hj
    obtain ⟨da, dc, rfl⟩ := own_form ho
    have a1 : (acc.length : Int) ≤ 468000 := by omega
    have HA := Lib.hid hl
    clear ho hb hj hl
    by_cases c : k < m
    · have e1 : decide ((k : Int) < (m : Int)) = true := decide_eq_true (by omega)
      have k1 : (k : Int) < (m : Int) := by omega
      obtain ⟨x, hx⟩ : ∃ x, R[k]? = some x := ⟨_, List.getElem?_eq_getElem (by rw [HM.out]; exact c)⟩
      have F2 := HF.out.below HB.out
      rw [← HM.out] at F2
      obtain ⟨b, off, rfl, hbb, rg, hS⟩ := F2.at hx
      have hfx : fs[k]? = some x.1 := by rw [← HFS.out, List.getElem?_map, hx]; rfl
      have JA := Lib.hid (jn_at hfx acc)
      have hdx := HD.out x (List.mem_of_getElem? hx)
      obtain ⟨f, fv⟩ := x
      simp only at rg hS hfx JA hdx
      obtain ⟨fa, fc, ef⟩ := hS.form
      subst ef
      have RG := Lib.hid rg
      have BA := Lib.hid (balloc (brefl wr) (.cells #[.int .i64 f.ver, .bool f.resp, .bool f.er, .bool f.more, .int .i64 f.op, .int .i64 f.seq, .int .i64 f.st, .int .i64 f.asc, .int .i64 f.off, (.slice fa f.dat.length fc)] 24))
      have NA : Hid (Blk (wr.alloc (.cells #[.int .i64 f.ver, .bool f.resp, .bool f.er, .bool f.more, .int .i64 f.op, .int .i64 f.seq, .int .i64 f.st, .int .i64 f.asc, .int .i64 f.off, (.slice fa f.dat.length fc)] 24)) wr.heap.size (fvs f (.slice fa f.dat.length fc))) := Lib.hid (Blk.new' wr #[.int .i64 f.ver, .bool f.resp, .bool f.er, .bool f.more, .int .i64 f.op, .int .i64 f.seq, .int .i64 f.st, .int .i64 f.asc, .int .i64 f.off, (.slice fa f.dat.length fc)] 24)
      have HS := Lib.hid hS
      clear rg F2 hS hx hfx
      go_upto_region 5 with (refine wpList_load_mid rfl 24 _ rfl _ _ rfl [.int .i64 f.ver, .bool f.resp, .bool f.er, .bool f.more, .int .i64 f.op, .int .i64 f.seq, .int .i64 f.st, .int .i64 f.asc, .int .i64 f.off, (.slice fa f.dat.length fc)] _ RG.out Try.underlying24 rfl (by exact info_fr) ?_)
      generalize wr.alloc (.cells #[.int .i64 f.ver, .bool f.resp, .bool f.er, .bool f.more, .int .i64 f.op, .int .i64 f.seq, .int .i64 f.st, .int .i64 f.asc, .int .i64 f.off, (.slice fa f.dat.length fc)] 24) = wa at *
      obtain ⟨y8, _⟩ := NA.out.2 8 _ rfl
      obtain ⟨y3, _⟩ := NA.out.2 3 _ rfl
      obtain ⟨y9, _⟩ := NA.out.2 9 _ rfl
      have BW := Lib.hid (bstep HB.out BA.out)
      have OA := Lib.hid (own_below HO.out BA.out)
      clear HF RG NA
      obtain ⟨LA, hLA⟩ : ∃ M, decide (k + 1 = m) = M := ⟨_, rfl⟩
      have eL : ((k : Int) == (m : Int) - 1) = LA := by rw [← hLA]; exact decide_eq_decide.2 (by omega)
      rw [HL.out, hLA] at JA
      have HLA := Lib.hid hLA
      clear hLA
      by_cases c2 : f.off = (acc.length : Int)
      · have e2 : (f.off != (acc.length : Int)) = false := by simp [c2]
        cases c3 : (f.more == LA) with
        | true =>
          have HN : Hid (jn [] fs = none) := Lib.hid (by rw [HJ.out, JA.out, if_neg]; rintro ⟨_, q⟩; rw [q] at c3; cases LA <;> simp at c3)
          clear JA HJ
          go_wp2_with fail
          go_ret2
          exact ⟨⟨_, by rw [jok_no HN.out]; rfl, by rw [jv_no (jok_no HN.out)]; exact Own.nil _ _⟩, BW.out⟩
        | false =>
          have HN : Hid (jn [] fs = jn (acc ++ f.dat) (fs.drop (k + 1))) := Lib.hid (by rw [HJ.out, JA.out, if_pos ⟨c2, by cases q : f.more <;> cases LA <;> rw [q] at c3 <;> first | rfl | simp at c3⟩])
          clear JA HJ
          obtain ⟨v2, w2, r2, o2, b2, s2, _⟩ := (HS.out.below BA.out).app (brefl wa) OA.out BW.out.size (by have := HA.out; omega) 22
          have O2 := Lib.hid o2
          have B2 := Lib.hid (BW.out.trans b2)
          clear o2 b2 s2
          go_wp2_with (first | (at_builtin; refine wpList_append_eq rfl _ _ 22 rfl _ _ v2 w2 rfl rfl r2 ?_))
          exact ⟨⟨k + 1, _, by omega, by go_num, O2.out, by have := HA.out; rw [List.length_append]; omega, HN.out, B2.out⟩, by simp [intOf]; omega⟩
      · have e2 : (f.off != (acc.length : Int)) = true := by simp [c2]
        have HN : Hid (jn [] fs = none) := Lib.hid (by rw [HJ.out, JA.out, if_neg]; exact fun q => c2 q.1)
        clear JA HJ c2
        go_wp2_with fail
        go_ret2
        exact ⟨⟨_, by rw [jok_no HN.out]; rfl, by rw [jv_no (jok_no HN.out)]; exact Own.nil _ _⟩, BW.out⟩
    · have e1 : decide ((k : Int) < (m : Int)) = false := decide_eq_false (by omega)
      obtain rfl : k = m := by omega
      have HE : Hid (jn [] fs = some acc) := Lib.hid (by rw [HJ.out, ← HL.out, List.drop_length]; rfl)
      have HG : Hid (jok fs = decide (0 < k)) := Lib.hid (by
        unfold jok
        rw [HE.out]
        by_cases q : k = 0
        · have := HL.out
          rw [q] at this
          rw [List.length_eq_zero_iff.1 this, q]; rfl
        · rw [decide_eq_true (by omega)]
          cases fs with
          | nil => have := HL.out; simp at this; omega
          | cons a b => rfl)
      have HV : Hid (Own wr w.heap.size (.slice da acc.length dc) (jv fs)) := Lib.hid (by
        unfold jv
        by_cases q : jok fs = true
        · rw [if_pos q, HE.out]; exact HO.out
        · have : k = 0 := by rw [HG.out] at q; simp at q; omega
          have h2 : acc = [] := List.length_eq_zero_iff.1 (by have := HA.out; omega)
          rw [if_neg q, ← h2]; exact HO.out)
      clear HJ HO
      generalize acc.length = n at *
      go_wp2_with fail
      go_ret2
      exact ⟨⟨_, by rw [HG.out]; rfl, HV.out⟩, HB.out⟩
end Go.Proofs.Yteigmnbbfmcihaa.Ct
