/-
  A line's words, character by character: begin, takePlain, takeQuoted, take, end.
  A line's words, character by character: take, end.
-/
import Derived.Test.YtoecgabdjpgleaaGreatDoorWc
namespace Go.Proofs.YtoecgabdjpgleaaGreatDoor.Wd
open Go.ChangeShapes Go.WideShapes Go.ChangeAt Go.RowKit Go.Joins By
set_option linter.unusedVariables false
set_option linter.unusedSimpArgs false

/-- a character ahead of a word. -/
def CS.first (S : CS) (t : ByteArray) (k : Nat) : CS := if bl1 t = true then S else if t.toList = [35] then (S.beg k false).to 5 else if t.toList = [34] then (S.beg k true).to 2 else ((S.beg k false).add t).to 1

set_option maxRecDepth 100000 in
set_option maxHeartbeats 4000000 in
theorem begin_c {w : World} {B b : Nat} {S : CS} (h : Cu w B b S) {r : Nat} {t : ByteArray} (c : Ch r t) (k : Nat) (hn : S.tx.size + 4 ≤ 140737488355328) :
    Calls Tryz.prog 78 #[.pointer (some ⟨b, 0, none⟩), .int .i32 r, .int .i64 k] w fun e w' => e = .returned (.tuple #[]) ∧ Cu w' B b (S.first t k) ∧ Fr B w w' := by
  have BL := c.bl
  have I34 := c.is34
  have I35 := c.is35
  obtain ⟨S', hS⟩ : ∃ S', Hid (S.first t k = S') := ⟨_, Lib.hid rfl⟩
  rw [hS.out]
  cases hb : blk r with
  | true =>
    have SE : S' = S := by rw [← hS.out, CS.first, if_pos (by rw [BL, hb])]
    subst SE
    have IB := isBlank_c r w
    rw [hb] at IB
    clear hb BL I34 I35
    go_enter Tryz.func78, Tryz.ntmps78
    go_wp2_with fail
    refine IB.mono ?_
    rintro e w' ⟨rfl, rfl⟩
    go_wp2_with fail
    exact bodyPost_ret (v := .tuple #[]) (by simp [results, Tryz.results78, go_sem]) rfl ⟨rfl, h, Fr.refl _ _⟩
  | false =>
    have IB := isBlank_c r w
    rw [hb] at IB
    have nb : ¬ bl1 t = true := by rw [BL, hb]; decide
    obtain ⟨vw, ad, vb, c0, c1, c2, c3, c4, c5, c6, fz⟩ := h.cells
    have f0 := fz 0
    have f2 := fz 2
    have f3 := fz 3
    have f4 := fz 4
    clear fz BL hb
    by_cases r35 : r = 35
    · have SE : Hid (S' = (S.beg k false).to 5) := Lib.hid (by rw [← hS.out, CS.first, if_neg nb, if_pos (I35.2 r35)])
      have e34 : ((r : Int) == 34) = false := by rw [beq_eq_false_iff_ne]; omega
      have e35 : ((r : Int) == 35) = true := by rw [beq_iff_eq]; omega
      clear r35 nb I34 I35
      go_enter Tryz.func78, Tryz.ntmps78
      go_wp2_with fail
      refine IB.mono ?_
      rintro e w' ⟨rfl, rfl⟩
      have CB := Lib.hid (h.begin k false)
      have CB2 := Lib.hid (CB.out.1.set 5)
      go_wp2_with fail
      go_end0
      exact ⟨rfl, by rw [SE.out]; exact CB2.out.1, CB.out.2.trans CB2.out.2⟩
    · by_cases r34 : r = 34
      · have SE : Hid (S' = (S.beg k true).to 2) := Lib.hid (by rw [← hS.out, CS.first, if_neg nb, if_neg (fun h => r35 (I35.1 h)), if_pos (I34.2 r34)])
        have e34 : ((r : Int) == 34) = true := by rw [beq_iff_eq]; omega
        have e35 : ((r : Int) == 35) = false := by rw [beq_eq_false_iff_ne]; omega
        clear r35 r34 nb I34 I35
        go_enter Tryz.func78, Tryz.ntmps78
        go_wp2_with fail
        refine IB.mono ?_
        rintro e w' ⟨rfl, rfl⟩
        have CB := Lib.hid (h.begin k true)
        have CB2 := Lib.hid (CB.out.1.set 2)
        go_wp2_with fail
        go_end0
        exact ⟨rfl, by rw [SE.out]; exact CB2.out.1, CB.out.2.trans CB2.out.2⟩
      · have SE : Hid (S' = ((S.beg k false).add t).to 1) := Lib.hid (by rw [← hS.out, CS.first, if_neg nb, if_neg (fun h => r35 (I35.1 h)), if_neg (fun h => r34 (I34.1 h))])
        have e34 : ((r : Int) == 34) = false := by rw [beq_eq_false_iff_ne]; omega
        have e35 : ((r : Int) == 35) = false := by rw [beq_eq_false_iff_ne]; omega
        clear r35 r34 nb I34 I35
        go_enter Tryz.func78, Tryz.ntmps78
        go_wp2_with fail
        refine IB.mono ?_
        rintro e w' ⟨rfl, rfl⟩
        have CB := Lib.hid (h.begin k false)
        unfold emp at CB
        go_wp2_with fail
        generalize ((w'.setCell ⟨b, 2, none⟩ (.string ⟨#[]⟩)).setCell ⟨b, 3, none⟩ (.int .i64 (k : Int))).setCell ⟨b, 4, none⟩ (.bool false) = w2 at *
        refine (CB.out.1.write c hn).mono ?_
        rintro e w3 ⟨⟨n, rfl⟩, C3, R3⟩
        have P3 := Lib.hid (And.intro C3 R3)
        have P4 := Lib.hid (C3.set 1)
        obtain ⟨_, _, _, d0, _, _, _, _, _, _, dz⟩ := C3.cells
        have d1 := dz 0
        clear C3 R3 dz
        go_wp2_with fail
        go_end0
        exact ⟨rfl, by rw [SE.out]; exact P4.out.1, (CB.out.2.trans P3.out.2).trans P4.out.2⟩

/-- what a character in a word without quotes, and in one with quotes, makes. -/
def CS.plain (S : CS) (t : ByteArray) : CS := if bl1 t = true then S.fin.to 0 else S.add t
def CS.quot (S : CS) (t : ByteArray) : CS := if t.toList = [92] then S.to 3 else if t.toList = [34] then S.fin.to 4 else S.add t
def TakeP (B b : Nat) (w : World) (o : Option CS) (e : Ending) (w' : World) : Prop :=
  match o with
  | none => e = .returned (.bool false) ∧ Fr B w w'
  | some S => e = .returned (.bool true) ∧ Cu w' B b S ∧ Fr B w w'

set_option maxRecDepth 100000 in
set_option maxHeartbeats 4000000 in
theorem takePlain_c {w : World} {B b : Nat} {S : CS} (h : Cu w B b S) {r : Nat} {t : ByteArray} (c : Ch r t) (hn : S.tx.size + 4 ≤ 140737488355328) (hw : (S.ws.length + 1) * 32 ≤ 140737488355328) :
    Calls Tryz.prog 79 #[.pointer (some ⟨b, 0, none⟩), .int .i32 r] w fun e w' => TakeP B b w (if t.toList = [34] then none else some (S.plain t)) e w' := by
  have BL := c.bl
  have I34 := c.is34
  obtain ⟨S', hS⟩ : ∃ S', Hid ((if t.toList = [34] then none else some (S.plain t)) = S') := ⟨_, Lib.hid rfl⟩
  rw [hS.out]
  by_cases r34 : r = 34
  · have SE : S' = none := by rw [← hS.out, if_pos (I34.2 r34)]
    subst SE
    have e34 : ((r : Int) == 34) = true := by rw [beq_iff_eq]; omega
    clear r34 I34 BL
    go_enter Tryz.func79, Tryz.ntmps79
    go_wp2_with fail
    go_ret
    exact ⟨rfl, Fr.refl _ _⟩
  · have e34 : ((r : Int) == 34) = false := by rw [beq_eq_false_iff_ne]; omega
    have SE : S' = some (S.plain t) := by rw [← hS.out, if_neg (fun h => r34 (I34.1 h))]
    subst SE
    have IB := isBlank_c r w
    cases hb : blk r with
    | true =>
      have PL : Hid (S.plain t = S.fin.to 0) := Lib.hid (by rw [CS.plain, if_pos (by rw [BL, hb])])
      rw [hb] at IB
      clear r34 I34 BL hb
      go_enter Tryz.func79, Tryz.ntmps79
      go_wp2_with fail
      refine IB.mono ?_
      rintro e w' ⟨rfl, rfl⟩
      go_wp2_with fail
      refine (finish_c h hw).mono ?_
      rintro e w3 ⟨rfl, C3, R3⟩
      have P3 := Lib.hid (And.intro C3 R3)
      have P4 := Lib.hid (C3.set 0)
      obtain ⟨_, _, _, d0, _, _, _, _, _, _, dz⟩ := C3.cells
      have d1 := dz 0
      clear C3 R3 dz
      go_wp2_with fail
      go_ret
      exact ⟨rfl, by rw [PL.out]; exact P4.out.1, P3.out.2.trans P4.out.2⟩
    | false =>
      have PL : Hid (S.plain t = S.add t) := Lib.hid (by rw [CS.plain, if_neg (by rw [BL, hb]; decide)])
      rw [hb] at IB
      clear r34 I34 BL hb
      go_enter Tryz.func79, Tryz.ntmps79
      go_wp2_with fail
      refine IB.mono ?_
      rintro e w' ⟨rfl, rfl⟩
      go_wp2_with fail
      refine (h.write c hn).mono ?_
      rintro e w3 ⟨⟨n, rfl⟩, C3, R3⟩
      have P3 := Lib.hid (And.intro C3 R3)
      clear C3 R3
      go_wp2_with fail
      go_ret
      exact ⟨rfl, by rw [PL.out]; exact P3.out.1, P3.out.2⟩

set_option maxRecDepth 100000 in
set_option maxHeartbeats 4000000 in
theorem takeQuoted_c {w : World} {B b : Nat} {S : CS} (h : Cu w B b S) {r : Nat} {t : ByteArray} (c : Ch r t) (hn : S.tx.size + 4 ≤ 140737488355328) (hw : (S.ws.length + 1) * 32 ≤ 140737488355328) :
    Calls Tryz.prog 80 #[.pointer (some ⟨b, 0, none⟩), .int .i32 r] w fun e w' => e = .returned (.tuple #[]) ∧ Cu w' B b (S.quot t) ∧ Fr B w w' := by
  have I34 := c.is34
  have I92 := c.is92
  obtain ⟨S', hS⟩ : ∃ S', Hid (S.quot t = S') := ⟨_, Lib.hid rfl⟩
  rw [hS.out]
  by_cases r92 : r = 92
  · have SE : S' = S.to 3 := by rw [← hS.out, CS.quot, if_pos (I92.2 r92)]
    subst SE
    have e92 : ((r : Int) == 92) = true := by rw [beq_iff_eq]; omega
    have P4 := Lib.hid (h.set 3)
    obtain ⟨_, _, _, d0, _, _, _, _, _, _, dz⟩ := h.cells
    have d1 := dz 0
    clear r92 I34 I92 dz
    go_enter Tryz.func80, Tryz.ntmps80
    go_wp2_with fail
    go_end0
    exact ⟨rfl, P4.out⟩
  · have e92 : ((r : Int) == 92) = false := by rw [beq_eq_false_iff_ne]; omega
    by_cases r34 : r = 34
    · have SE : S' = S.fin.to 4 := by rw [← hS.out, CS.quot, if_neg (fun h => r92 (I92.1 h)), if_pos (I34.2 r34)]
      subst SE
      have e34 : ((r : Int) == 34) = true := by rw [beq_iff_eq]; omega
      clear r92 r34 I34 I92
      go_enter Tryz.func80, Tryz.ntmps80
      go_wp2_with fail
      refine (finish_c h hw).mono ?_
      rintro e w3 ⟨rfl, C3, R3⟩
      have P3 := Lib.hid (And.intro C3 R3)
      have P4 := Lib.hid (C3.set 4)
      obtain ⟨_, _, _, d0, _, _, _, _, _, _, dz⟩ := C3.cells
      have d1 := dz 0
      clear C3 R3 dz
      go_wp2_with fail
      go_end0
      exact ⟨rfl, P4.out.1, P3.out.2.trans P4.out.2⟩
    · have e34 : ((r : Int) == 34) = false := by rw [beq_eq_false_iff_ne]; omega
      have SE : S' = S.add t := by rw [← hS.out, CS.quot, if_neg (fun h => r92 (I92.1 h)), if_neg (fun h => r34 (I34.1 h))]
      subst SE
      clear r92 r34 I34 I92
      go_enter Tryz.func80, Tryz.ntmps80
      go_wp2_with fail
      refine (h.write c hn).mono ?_
      rintro e w3 ⟨⟨n, rfl⟩, C3, R3⟩
      have P3 := Lib.hid (And.intro C3 R3)
      clear C3 R3
      go_wp2_with fail
      go_end0
      exact ⟨rfl, P3.out⟩
end Go.Proofs.YtoecgabdjpgleaaGreatDoor.Wd
namespace Go.Proofs.YtoecgabdjpgleaaGreatDoor.Wd
open Go.ChangeShapes Go.WideShapes Go.ChangeAt Go.RowKit Go.Joins By
set_option linter.unusedVariables false
set_option linter.unusedSimpArgs false

theorem stp_0 {t : ByteArray} {k : Nat} {S : CS} (h : S.wh = 0) : stp t k S = some (S.first t k) := by rw [stp, h]; rfl
theorem stp_1 {t : ByteArray} {k : Nat} {S : CS} (h : S.wh = 1) : stp t k S = (if t.toList = [34] then none else some (S.plain t)) := by rw [stp, h]; rfl
theorem stp_2 {t : ByteArray} {k : Nat} {S : CS} (h : S.wh = 2) : stp t k S = some (S.quot t) := by rw [stp, h]; rfl
theorem stp_3 {t : ByteArray} {k : Nat} {S : CS} (h : S.wh = 3) : stp t k S = some ((S.add t).to 2) := by rw [stp, h]; rfl
theorem stp_4 {t : ByteArray} {k : Nat} {S : CS} (h : S.wh = 4) : stp t k S = if bl1 t = true then some (S.to 0) else none := by rw [stp, h]; rfl
theorem stp_5 {t : ByteArray} {k : Nat} {S : CS} (h : 5 ≤ S.wh) : stp t k S = some S := by
  unfold stp
  split
  all_goals first | rfl | omega

theorem ib {n : Nat} {m : Int} (h : (n : Int) = m) : ((n : Int) == m) = true := by rw [beq_iff_eq]; exact h
theorem nb' {n : Nat} {m : Int} (h : (n : Int) ≠ m) : ((n : Int) == m) = false := by rw [beq_eq_false_iff_ne]; exact h

set_option maxRecDepth 100000 in
set_option maxHeartbeats 4000000 in
theorem take_c {w : World} {B b : Nat} {S : CS} (h : Cu w B b S) {r : Nat} {t : ByteArray} (c : Ch r t) (k : Nat) (hn : S.tx.size + 4 ≤ 140737488355328) (hw : (S.ws.length + 1) * 32 ≤ 140737488355328) :
    Calls Tryz.prog 51 #[.pointer (some ⟨b, 0, none⟩), .int .i32 r, .int .i64 k] w fun e w' => TakeP B b w (stp t k S) e w' := by
  obtain ⟨o, hO⟩ : ∃ o, Hid (stp t k S = o) := ⟨_, Lib.hid rfl⟩
  rw [hO.out]
  obtain ⟨_, _, _, d0, _, _, _, _, _, _, dz⟩ := h.cells
  have d1 := dz 0
  clear dz
  have BC := Lib.hid (begin_c h c k hn)
  have PC := Lib.hid (takePlain_c h c hn hw)
  have QC := Lib.hid (takeQuoted_c h c hn hw)
  have WC := Lib.hid (h.write c hn)
  by_cases n0 : S.wh = 0
  · have SE : o = some (S.first t k) := by rw [← hO.out, stp_0 n0]
    subst SE
    have t0 := ib (n := S.wh) (m := 0) (by omega)
    clear n0 PC QC WC
    generalize (S.wh : Int) = n at *
    go_enter Tryz.func51, Tryz.ntmps51
    go_wp2_with fail
    refine BC.out.mono ?_
    rintro e w' ⟨rfl, C3, R3⟩
    have P3 := Lib.hid (And.intro C3 R3)
    clear C3 R3
    go_wp2_with fail
    go_ret
    exact ⟨rfl, P3.out⟩
  have t0 := nb' (n := S.wh) (m := 0) (by omega)
  by_cases n1 : S.wh = 1
  · have SE : o = (if t.toList = [34] then none else some (S.plain t)) := by rw [← hO.out, stp_1 n1]
    rw [← SE] at PC
    have t1 := ib (n := S.wh) (m := 1) (by omega)
    clear n0 n1 BC QC WC SE
    generalize (S.wh : Int) = n at *
    go_enter Tryz.func51, Tryz.ntmps51
    go_wp2_with fail
    refine PC.out.mono ?_
    intro e w' TP
    cases o with
    | none =>
      obtain ⟨rfl, R3⟩ := TP
      go_wp2_with fail
      go_ret
      exact ⟨rfl, R3⟩
    | some S' =>
      obtain ⟨rfl, C3, R3⟩ := TP
      have P3 := Lib.hid (And.intro C3 R3)
      clear C3 R3
      go_wp2_with fail
      go_ret
      exact ⟨rfl, P3.out⟩
  have t1 := nb' (n := S.wh) (m := 1) (by omega)
  by_cases n2 : S.wh = 2
  · have SE : o = some (S.quot t) := by rw [← hO.out, stp_2 n2]
    subst SE
    have t2 := ib (n := S.wh) (m := 2) (by omega)
    clear n0 n1 n2 BC PC WC
    generalize (S.wh : Int) = n at *
    go_enter Tryz.func51, Tryz.ntmps51
    go_wp2_with fail
    refine QC.out.mono ?_
    rintro e w' ⟨rfl, C3, R3⟩
    have P3 := Lib.hid (And.intro C3 R3)
    clear C3 R3
    go_wp2_with fail
    go_ret
    exact ⟨rfl, P3.out⟩
  have t2 := nb' (n := S.wh) (m := 2) (by omega)
  by_cases n3 : S.wh = 3
  · have SE : o = some ((S.add t).to 2) := by rw [← hO.out, stp_3 n3]
    subst SE
    have t3 := ib (n := S.wh) (m := 3) (by omega)
    clear n0 n1 n2 n3 BC PC QC
    generalize (S.wh : Int) = n at *
    go_enter Tryz.func51, Tryz.ntmps51
    go_wp2_with fail
    refine WC.out.mono ?_
    rintro e w3 ⟨⟨n', rfl⟩, C3, R3⟩
    have P3 := Lib.hid (And.intro C3 R3)
    have P4 := Lib.hid (C3.set 2)
    obtain ⟨_, _, _, a0, _, _, _, _, _, _, az⟩ := C3.cells
    have a1 := az 0
    clear C3 R3 az
    go_wp2_with fail
    go_ret
    exact ⟨rfl, P4.out.1, P3.out.2.trans P4.out.2⟩
  have t3 := nb' (n := S.wh) (m := 3) (by omega)
  by_cases n4 : S.wh = 4
  · have t4 := ib (n := S.wh) (m := 4) (by omega)
    have IB := isBlank_c r w
    cases hb : blk r with
    | true =>
      have SE : o = some (S.to 0) := by rw [← hO.out, stp_4 n4, if_pos (by rw [c.bl, hb])]
      subst SE
      rw [hb] at IB
      have P4 := Lib.hid (h.set 0)
      clear n0 n1 n2 n3 n4 BC PC QC WC hb
      generalize (S.wh : Int) = n at *
      go_enter Tryz.func51, Tryz.ntmps51
      go_wp2_with fail
      refine IB.mono ?_
      rintro e w' ⟨rfl, rfl⟩
      go_wp2_with fail
      go_ret
      exact ⟨rfl, P4.out⟩
    | false =>
      have SE : o = none := by rw [← hO.out, stp_4 n4, if_neg (by rw [c.bl, hb]; decide)]
      subst SE
      rw [hb] at IB
      clear n0 n1 n2 n3 n4 BC PC QC WC hb
      generalize (S.wh : Int) = n at *
      go_enter Tryz.func51, Tryz.ntmps51
      go_wp2_with fail
      refine IB.mono ?_
      rintro e w' ⟨rfl, rfl⟩
      go_wp2_with fail
      go_ret
      exact ⟨rfl, Fr.refl _ _⟩
  have t4 := nb' (n := S.wh) (m := 4) (by omega)
  have SE : o = some S := by rw [← hO.out, stp_5 (by omega)]
  subst SE
  clear n0 n1 n2 n3 n4 BC PC QC WC
  generalize (S.wh : Int) = n at *
  go_enter Tryz.func51, Tryz.ntmps51
  go_wp2_with fail
  go_ret
  exact ⟨rfl, h, Fr.refl _ _⟩

/-- is no word left open? -/
def CS.shut (S : CS) : Bool := decide (S.wh ≠ 2) && decide (S.wh ≠ 3)
def CS.last (S : CS) : CS := if S.wh = 1 then S.fin else S
set_option maxRecDepth 100000 in
set_option maxHeartbeats 4000000 in
theorem end_c {w : World} {B b : Nat} {S : CS} (h : Cu w B b S) (hw : (S.ws.length + 1) * 32 ≤ 140737488355328) :
    Calls Tryz.prog 52 #[.pointer (some ⟨b, 0, none⟩)] w fun e w' => e = .returned (.bool S.shut) ∧ Cu w' B b S.last ∧ Fr B w w' := by
  obtain ⟨S', hS⟩ : ∃ S', Hid (S.last = S') := ⟨_, Lib.hid rfl⟩
  obtain ⟨z, hz⟩ : ∃ z, Hid (S.shut = z) := ⟨_, Lib.hid rfl⟩
  rw [hS.out, hz.out]
  obtain ⟨_, _, _, d0, _, _, _, _, _, _, dz⟩ := h.cells
  clear dz
  by_cases n1 : S.wh = 1
  · have t1 := ib (n := S.wh) (m := 1) (by omega)
    have SE : S' = S.fin := by rw [← hS.out, CS.last, if_pos n1]
    have ZE : z = true := by rw [← hz.out, CS.shut, n1]; decide
    subst SE ZE
    have hw1 : S.fin.wh = 1 := n1
    go_enter Tryz.func52, Tryz.ntmps52
    go_wp2_with fail
    refine (finish_c h hw).mono ?_
    rintro e w3 ⟨rfl, C3, R3⟩
    have P3 := Lib.hid (And.intro C3 R3)
    obtain ⟨_, _, _, a0, _, _, _, _, _, _, az⟩ := C3.cells
    rw [hw1] at a0
    clear C3 R3 az hw1 n1 t1
    go_wp2_with fail
    go_ret
    exact ⟨rfl, P3.out⟩
  · have t1 := nb' (n := S.wh) (m := 1) (by omega)
    have SE : S' = S := by rw [← hS.out, CS.last, if_neg n1]
    subst SE
    have t2 : ((S'.wh : Int) != 2) = decide (S'.wh ≠ 2) := by
      by_cases e : S'.wh = 2
      · rw [e]; decide
      · rw [decide_eq_true e, bne_iff_ne]; omega
    have t3 : ((S'.wh : Int) != 3) = decide (S'.wh ≠ 3) := by
      by_cases e : S'.wh = 3
      · rw [e]; decide
      · rw [decide_eq_true e, bne_iff_ne]; omega
    have ZE : Hid (z = (decide (S'.wh ≠ 2) && decide (S'.wh ≠ 3))) := Lib.hid (by rw [← hz.out]; rfl)
    clear n1 hS
    generalize decide (S'.wh ≠ 2) = x2 at *
    generalize decide (S'.wh ≠ 3) = x3 at *
    generalize (S'.wh : Int) = n at *
    cases x2 <;> cases x3
    all_goals
      go_enter Tryz.func52, Tryz.ntmps52
      go_wp2_with fail
      go_ret
      exact ⟨by rw [ZE.out]; rfl, h, Fr.refl _ _⟩
end Go.Proofs.YtoecgabdjpgleaaGreatDoor.Wd
