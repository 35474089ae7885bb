/-
  LeapBack: A table that was written as a list is read back, and a list twice over is refused. The law returns true for every input, and the input reads as it did.
  Conditions: the tables that the row lists read as the program's text lays them (the card ties them).
-/
import Derived.Test.YtmehknhajoemgaaDoorRows
import Derived.Test.YtmehknhajoemgaaDoorCards
import Derived.Test.YtmehknhajoemgaaDoorTie
import Derived.Test.YtmehknhajoemgaaDoorLpO
import Derived.Test.YtmehknhajoemgaaDoorLpW
import Derived.Test.YtmehknhajoemgaaDoorLpX
import Derived.SevenTiedAt
namespace Go.Proofs.YtmehknhajoemgaaDoor.leapBack
open Go.ChangeShapes Go.WideShapes Go.ChangeAt Go.RowKit Go.Joins By
set_option linter.unusedVariables false
set_option linter.unusedSimpArgs false

theorem own : ownKnob Tryd.prog.godebug = none := by kernel_rfl
theorem laidOut : laidOutB Tryd.prog = true := by kernel_rfl
theorem door_met (os : Os) (args : Array Value) : laidMetH Tryd.prog Rows.leapBackRow.laid ((World.doorLaid Tryd.prog 38 os).forCall (fun _ _ => 0) ⟨#[], args, []⟩).memory := Hs.door_met os args

set_option maxRecDepth 100000 in
set_option maxHeartbeats 4000000 in
theorem walk_no (vs : Value) (e : Int) (n : Nat) (a o : Nat → Int) (w : World) (C : Lp.Cs w vs n a o) (h : ¬ Lp.Tb n a o e) :
    Calls Tryd.prog 3 #[Lp.lv vs e] w fun x w' => x = .returned (.bool true) ∧ Below w.heap.size w w' := by
  have FN := Lib.hid (fun w (A : Lp.Cs w vs n a o) => Wd.Format_no A h)
  have CK := Lib.hid (fun w (A : Lp.Cs w vs n a o) => Lp.Check_c (e := e) A)
  have A0 := Lib.hid C
  have H := Lib.hid h
  clear C h
  unfold Lp.lv at *
  go_enter Tryd.func3, Tryd.ntmps3
  go_wp2_with fail
  refine (Lp.awake8_c _).mono ?_
  rintro x w1 ⟨rfl, hb⟩
  have q0 := hb.cell (p := ⟨w.heap.size, 0, none⟩) (by simp)
  have q1 := hb.cell (p := ⟨w.heap.size, 1, none⟩) (by simp)
  simp [go_sem] at q0 q1
  have z1 : w.heap.size < w1.heap.size := Nat.lt_of_lt_of_le (by simp) hb.size
  have B1 := Lib.hid (bstep (balloc (brefl w) _) hb)
  clear hb
  go_wp2_with fail
  refine (FN.out _ (A0.out.below B1.out)).mono ?_
  rintro x w2 ⟨rfl, hb⟩
  have q0' := (hb.cell (p := ⟨w.heap.size, 0, none⟩) z1).trans q0
  have q1' := (hb.cell (p := ⟨w.heap.size, 1, none⟩) z1).trans q1
  have B2 := Lib.hid (bstep B1.out hb)
  clear hb q0 q1
  go_wp2_with fail
  refine (CK.out _ (A0.out.below B2.out)).mono ?_
  rintro x w3 ⟨hc, hb⟩
  obtain ⟨_, rfl⟩ := hc.resolve_left (fun g => H.out g.1)
  have B3 := Lib.hid (bstep B2.out hb)
  clear hb hc
  go_wp2_with fail
  go_ret
  exact ⟨rfl, B3.out⟩

def Got (w : World) (n : Nat) (a o : Nat → Int) (e : Int) (x : Ending) (w' : World) : Prop := ∃ ad cap, x = .returned (.tuple #[.agg #[.slice ad n cap, .int .i64 e], .agg #[.int .i64 0, .int .i64 0, .int .i64 0]]) ∧ Lp.Cs w' (.slice ad n cap) n a o ∧ Below w.heap.size w w'
theorem got_of {w w' : World} {n n' : Nat} {a o : Nat → Int} {e : Int} {x : Ending} (hn : n' = n) (h : ∃ v, x = .returned (.tuple #[Lp.lv v e, .agg #[.int .i64 0, .int .i64 0, .int .i64 0]]) ∧ Lp.Cs w' v n' a o ∧ Below w.heap.size w w') : Got w n a o e x w' := by
  subst hn
  obtain ⟨v, hx, C, hb⟩ := h
  have C' := C
  obtain ⟨ad, cap, rfl, _⟩ := C'
  exact ⟨ad, cap, hx, C, hb⟩
theorem parse_one {n : Nat} {a o : Nat → Int} {e : Int} (h : Lp.Tb n a o e) (w : World) (G : Hs.Gl w) (T : Cv.Tab w) :
    Calls Tryd.prog 7 #[.string (Wd.fmt n a o e)] w (Got w n (Wd.cA (Wd.chs a o n)) (Wd.cO (Wd.chs a o n)) e) := by
  have p := Wd.Parse_yes (s := Wd.fmt n a o e) (M := n + 2) w (by have := Wd.fmt_le h; omega) (by rw [Wd.lines_one h, Wd.LL_len]; omega) (fun k hk => by rw [Wd.lines_one h] at hk ⊢; exact Wd.LL_at (by rwa [Wd.LL_len] at hk)) (Wd.pr_one h) (by rw [Wd.lines_one h, Wd.LL_len]) (by rw [Wd.xT_end]) (by rw [Wd.xT_end]; exact (Wd.tb_end h).1) (by rw [Wd.xT_end]; exact (Wd.tb_end h).2) G T
  rw [Wd.xT_end] at p
  exact p.mono fun x w' q => got_of (Wd.chs_len a o n) q
theorem parse_three {n : Nat} {a o : Nat → Int} {e : Int} (h : Lp.Tb n a o e) (w : World) (G : Hs.Gl w) (T : Cv.Tab w) :
    Calls Tryd.prog 7 #[.string (Wd.tx0 ++ Wd.fmt n a o e ++ Wd.tx1)] w (Got w n (Wd.cA (Wd.chs a o n)) (Wd.cO (Wd.chs a o n)) e) := by
  have te : Wd.t3 n a o e (n + 5) = ⟨Wd.chs a o n, e, true, Wd.hashT n a o e⟩ := by
    rw [Wd.t3, show min (n + 5 - 2) (n + 2) = n + 2 from by omega, Wd.xT_end]
  have p := Wd.Parse_yes (s := Wd.tx0 ++ Wd.fmt n a o e ++ Wd.tx1) (M := n + 5) w (by have := Wd.fmt_le h; rw [ByteArray.size_append, ByteArray.size_append]; show 15 + _ + 10 ≤ _; omega) (by rw [Wd.lines_three h, Wd.L3_len]; omega) (fun k hk => by rw [Wd.lines_three h] at hk ⊢; exact Wd.three_at hk) (Wd.pr_three h) (by rw [Wd.lines_three h, Wd.L3_len]) (by rw [te]) (by rw [te]; exact (Wd.tb_end h).1) (by rw [te]; exact (Wd.tb_end h).2) G T
  rw [te] at p
  exact p.mono fun x w' q => got_of (Wd.chs_len a o n) q
theorem parse_two {n : Nat} {a o : Nat → Int} {e : Int} (h : Lp.Tb n a o e) (w : World) (G : Hs.Gl w) (T : Cv.Tab w) :
    Calls Tryd.prog 7 #[.string (Wd.fmt n a o e ++ Wd.fmt n a o e)] w fun x w' => x = .returned (.tuple #[.agg #[.slice none 0 0, .int .i64 0], .agg #[.int .i64 4, .int .i64 (((n + 2 : Nat) : Int) + 1), .int .i64 0]]) ∧ Below w.heap.size w w' :=
  have ln : (Wd.lines (Wd.fmt n a o e ++ Wd.fmt n a o e)).length = n + 2 + (n + 2) := by rw [Wd.lines_twice h, List.length_append, Wd.LL_len]
  have x0 : Wd.x2 n a o e (n + 2) = Wd.xL n a o e 0 := by rw [Wd.x2, if_neg (by omega), Nat.sub_self]
  Wd.Parse_bad (s := Wd.fmt n a o e ++ Wd.fmt n a o e) (M := n + 2) (t := Wd.num (e / 1048576)) (n := (e / 1048576).toNat) w (by have := Wd.fmt_le h; rw [ByteArray.size_append]; omega) (by rw [ln]; omega) (fun k hk => by rw [Wd.lines_twice h] at hk ⊢; exact Wd.twice_at hk) (Wd.pr_two h) (by rw [ln]; omega) (by rw [x0]; exact Nat.le_trans (Wd.xL_ok h (by omega)).2 (by omega)) (by rw [x0]; exact Wd.xK_kl h (i := 0) (by omega)) (by rw [Wd.xT_end]) G T

set_option maxRecDepth 100000 in
set_option maxHeartbeats 8000000 in
theorem walk_yes (vs : Value) (e : Int) (n : Nat) (a o : Nat → Int) (w : World) (G : Hs.Gl w) (T : Cv.Tab w) (C : Lp.Cs w vs n a o) (h : Lp.Tb n a o e) :
    Calls Tryd.prog 3 #[Lp.lv vs e] w fun x w' => x = .returned (.bool true) ∧ Below w.heap.size w w' := by
  have FY := Lib.hid (fun w (A : Lp.Cs w vs n a o) G T => Wd.Format_ok A h G T)
  have CK := Lib.hid (fun w (A : Lp.Cs w vs n a o) => Lp.Check_c (e := e) A)
  have P1 := Lib.hid (fun w => parse_one h w)
  have P2 := Lib.hid (fun w => parse_two h w)
  have P3 := Lib.hid (fun w => parse_three h w)
  have SM : Lp.smC n n a o (Wd.cA (Wd.chs a o n)) (Wd.cO (Wd.chs a o n)) e e = true := by
    have := Wd.sm_end (n := n) (a := a) (o := o) (e := e)
    rwa [Wd.chs_len] at this
  have SC := fun w v v' (A : Lp.Cs w v n a o) (B : Lp.Cs w v' n (Wd.cA (Wd.chs a o n)) (Wd.cO (Wd.chs a o n))) => Lp.lSame_c (e := e) (e' := e) A B
  rw [SM] at SC
  have SC := Lib.hid SC
  clear SM
  have zS := Wd.fmt_le h
  generalize Wd.cA (Wd.chs a o n) = a' at *
  generalize Wd.cO (Wd.chs a o n) = o' at *
  generalize Wd.fmt n a o e = S at *
  have A0 := Lib.hid C
  have GG := Lib.hid G
  have TT := Lib.hid T
  have H := Lib.hid h
  obtain ⟨ad, cap, rfl, _⟩ := C
  clear G T h
  unfold Lp.lv at *
  unfold Wd.tx0 Wd.tx1 at P3
  go_enter Tryd.func3, Tryd.ntmps3
  go_wp2_with fail
  have V0 := Lib.hid (heap_alloc_new w (.cells #[.slice ad n cap, .int .i64 e] 25))
  have z0 : w.heap.size < (w.alloc (.cells #[.slice ad n cap, .int .i64 e] 25)).heap.size := by simp
  have B0 := Lib.hid (balloc (brefl w) (.cells #[.slice ad n cap, .int .i64 e] 25))
  generalize w.alloc (.cells #[.slice ad n cap, .int .i64 e] 25) = w0 at *
  refine (Lp.awake8_c _).mono ?_
  rintro x w1 ⟨rfl, hb⟩
  have V1 := Lib.hid ((hb.block _ z0).trans V0.out)
  have z1 : w.heap.size < w1.heap.size := Nat.lt_of_lt_of_le z0 hb.size
  have B1 := Lib.hid (bstep B0.out hb)
  have c0 := (Wd.cells_of V1.out 0).1
  have c1 := (Wd.cells_of V1.out 1).1
  simp only [List.getElem?_toArray, List.getElem?_cons_zero, List.getElem?_cons_succ] at c0 c1
  clear hb V0 B0
  go_wp2_with fail
  refine (FY.out _ (A0.out.below B1.out) (GG.out.below B1.out) (TT.out.below B1.out)).mono ?_
  rintro x w2 ⟨rfl, hb⟩
  have V2 := Lib.hid ((hb.block _ z1).trans V1.out)
  have z2 : w.heap.size < w2.heap.size := Nat.lt_of_lt_of_le z1 hb.size
  have B2 := Lib.hid (bstep B1.out hb)
  clear hb V1 B1 c0 c1 FY
  have c0 := (Wd.cells_of V2.out 0).1
  have c1 := (Wd.cells_of V2.out 1).1
  simp only [List.getElem?_toArray, List.getElem?_cons_zero, List.getElem?_cons_succ] at c0 c1
  go_wp2_with fail
  refine (CK.out _ (A0.out.below B2.out)).mono ?_
  rintro x w3 ⟨hc, hb⟩
  obtain ⟨_, rfl⟩ := hc.resolve_right (fun g => g.1 H.out)
  have V3 := Lib.hid ((hb.block _ z2).trans V2.out)
  have z3 : w.heap.size < w3.heap.size := Nat.lt_of_lt_of_le z2 hb.size
  have B3 := Lib.hid (bstep B2.out hb)
  clear hb hc V2 B2 c0 c1 CK
  go_wp2_with fail
  refine (P1.out _ (GG.out.below B3.out) (TT.out.below B3.out)).mono ?_
  rintro x w4 ⟨a4, p4, rfl, C4, hb⟩
  have V4 := (hb.block _ z3).trans V3.out
  have z4 : w.heap.size < w4.heap.size := Nat.lt_of_lt_of_le z3 hb.size
  have B4 := Lib.hid (bstep B3.out hb)
  clear hb V3 B3 P1
  have B5 := Lib.hid (balloc (balloc B4.out (.cells #[.slice a4 n p4, .int .i64 e] 25)) (.cells #[.int .i64 0, .int .i64 0, .int .i64 0] 32))
  have V5 := Lib.hid ((((Lib.alloc_old (w4.alloc (.cells #[.slice a4 n p4, .int .i64 e] 25)) (.cells #[.int .i64 0, .int .i64 0, .int .i64 0] 32) _ (by simp; omega)).trans (Lib.alloc_old w4 _ _ z4)).trans V4))
  have X5 : Hid (((w4.alloc (.cells #[.slice a4 n p4, .int .i64 e] 25)).alloc (.cells #[.int .i64 0, .int .i64 0, .int .i64 0] 32)).heap[w4.heap.size]? = some (.cells #[.slice a4 n p4, .int .i64 e] 25 (0, 0))) := Lib.hid ((Lib.alloc_old _ _ _ (by simp)).trans (heap_alloc_new w4 _))
  have Y5 : Hid (((w4.alloc (.cells #[.slice a4 n p4, .int .i64 e] 25)).alloc (.cells #[.int .i64 0, .int .i64 0, .int .i64 0] 32)).heap[w4.heap.size + 1]? = some (.cells #[.int .i64 0, .int .i64 0, .int .i64 0] 32 (0, 0))) := Lib.hid (by
    have := heap_alloc_new (w4.alloc (.cells #[.slice a4 n p4, .int .i64 e] 25)) (.cells #[.int .i64 0, .int .i64 0, .int .i64 0] 32)
    rwa [show (w4.alloc (.cells #[.slice a4 n p4, .int .i64 e] 25)).heap.size = w4.heap.size + 1 from by simp] at this)
  have z5 : w4.heap.size + 1 < ((w4.alloc (.cells #[.slice a4 n p4, .int .i64 e] 25)).alloc (.cells #[.int .i64 0, .int .i64 0, .int .i64 0] 32)).heap.size := by simp
  have C5 := Lib.hid ((C4.below (balloc (brefl w4) (.cells #[.slice a4 n p4, .int .i64 e] 25))).below (balloc (brefl _) (.cells #[.int .i64 0, .int .i64 0, .int .i64 0] 32)))
  clear V4 C4 B4
  go_wp2_with fail
  generalize (w4.alloc (.cells #[.slice a4 n p4, .int .i64 e] 25)).alloc (.cells #[.int .i64 0, .int .i64 0, .int .i64 0] 32) = w5 at *
  refine (P3.out _ (GG.out.below B5.out) (TT.out.below B5.out)).mono ?_
  rintro x w6 ⟨a6, p6, rfl, C6, hb⟩
  have V6 := (hb.block _ (by omega)).trans V5.out
  have X6 := (hb.block _ (by omega)).trans X5.out
  have Y6 := (hb.block _ z5).trans Y5.out
  have z6 : w4.heap.size + 1 < w6.heap.size := Nat.lt_of_lt_of_le z5 hb.size
  have B6 := Lib.hid (bstep B5.out hb)
  have D6 := C5.out.below hb
  clear hb V5 X5 Y5 C5 B5 P3
  have B7 := Lib.hid (balloc (balloc B6.out (.cells #[.slice a6 n p6, .int .i64 e] 25)) (.cells #[.int .i64 0, .int .i64 0, .int .i64 0] 32))
  have OL : Hid (∀ k, k < w6.heap.size → ((w6.alloc (.cells #[.slice a6 n p6, .int .i64 e] 25)).alloc (.cells #[.int .i64 0, .int .i64 0, .int .i64 0] 32)).heap[k]? = w6.heap[k]?) := Lib.hid fun k hk => (Lib.alloc_old _ _ _ (by simp; omega)).trans (Lib.alloc_old w6 _ _ hk)
  have V7 := Lib.hid ((OL.out _ (by omega)).trans V6)
  have X7 := Lib.hid ((OL.out _ (by omega)).trans X6)
  have Y7 := Lib.hid ((OL.out _ z6).trans Y6)
  have U7 : Hid (((w6.alloc (.cells #[.slice a6 n p6, .int .i64 e] 25)).alloc (.cells #[.int .i64 0, .int .i64 0, .int .i64 0] 32)).heap[w6.heap.size]? = some (.cells #[.slice a6 n p6, .int .i64 e] 25 (0, 0))) := Lib.hid ((Lib.alloc_old _ _ _ (by simp)).trans (heap_alloc_new w6 _))
  have W7 : Hid (((w6.alloc (.cells #[.slice a6 n p6, .int .i64 e] 25)).alloc (.cells #[.int .i64 0, .int .i64 0, .int .i64 0] 32)).heap[w6.heap.size + 1]? = some (.cells #[.int .i64 0, .int .i64 0, .int .i64 0] 32 (0, 0))) := Lib.hid (by
    have := heap_alloc_new (w6.alloc (.cells #[.slice a6 n p6, .int .i64 e] 25)) (.cells #[.int .i64 0, .int .i64 0, .int .i64 0] 32)
    rwa [show (w6.alloc (.cells #[.slice a6 n p6, .int .i64 e] 25)).heap.size = w6.heap.size + 1 from by simp] at this)
  have z7 : w6.heap.size + 1 < ((w6.alloc (.cells #[.slice a6 n p6, .int .i64 e] 25)).alloc (.cells #[.int .i64 0, .int .i64 0, .int .i64 0] 32)).heap.size := by simp
  have C7 := Lib.hid ((C6.below (balloc (brefl w6) (.cells #[.slice a6 n p6, .int .i64 e] 25))).below (balloc (brefl _) (.cells #[.int .i64 0, .int .i64 0, .int .i64 0] 32)))
  have D7 := Lib.hid ((D6.below (balloc (brefl w6) (.cells #[.slice a6 n p6, .int .i64 e] 25))).below (balloc (brefl _) (.cells #[.int .i64 0, .int .i64 0, .int .i64 0] 32)))
  clear V6 X6 Y6 C6 D6 B6 OL
  go_wp2_with fail
  generalize (w6.alloc (.cells #[.slice a6 n p6, .int .i64 e] 25)).alloc (.cells #[.int .i64 0, .int .i64 0, .int .i64 0] 32) = w7 at *
  refine (P2.out _ (GG.out.below B7.out) (TT.out.below B7.out)).mono ?_
  rintro x w8 ⟨rfl, hb⟩
  have V8 := (hb.block _ (by omega)).trans V7.out
  have X8 := (hb.block _ (by omega)).trans X7.out
  have Y8 := (hb.block _ (by omega)).trans Y7.out
  have U8 := (hb.block _ (by omega)).trans U7.out
  have W8 := (hb.block _ z7).trans W7.out
  have z8 : w6.heap.size + 1 < w8.heap.size := Nat.lt_of_lt_of_le z7 hb.size
  have B8 := Lib.hid (bstep B7.out hb)
  have C8 := C7.out.below hb
  have D8 := D7.out.below hb
  clear hb V7 X7 Y7 U7 W7 C7 D7 B7 P2
  generalize ((n + 2 : Nat) : Int) + 1 = ln at *
  have B9 := Lib.hid (balloc (balloc B8.out (.cells #[.slice none 0 0, .int .i64 0] 25)) (.cells #[.int .i64 4, .int .i64 ln, .int .i64 0] 32))
  have OL : Hid (∀ k, k < w8.heap.size → ((w8.alloc (.cells #[.slice none 0 0, .int .i64 0] 25)).alloc (.cells #[.int .i64 4, .int .i64 ln, .int .i64 0] 32)).heap[k]? = w8.heap[k]?) := Lib.hid fun k hk => (Lib.alloc_old _ _ _ (by simp; omega)).trans (Lib.alloc_old w8 _ _ hk)
  have V9 := Lib.hid ((OL.out _ (by omega)).trans V8)
  have X9 := Lib.hid ((OL.out _ (by omega)).trans X8)
  have Y9 := Lib.hid ((OL.out _ (by omega)).trans Y8)
  have U9 := Lib.hid ((OL.out _ (by omega)).trans U8)
  have W9 := Lib.hid ((OL.out _ z8).trans W8)
  have R9 : Hid (((w8.alloc (.cells #[.slice none 0 0, .int .i64 0] 25)).alloc (.cells #[.int .i64 4, .int .i64 ln, .int .i64 0] 32)).heap[w8.heap.size + 1]? = some (.cells #[.int .i64 4, .int .i64 ln, .int .i64 0] 32 (0, 0))) := Lib.hid (by
    have := heap_alloc_new (w8.alloc (.cells #[.slice none 0 0, .int .i64 0] 25)) (.cells #[.int .i64 4, .int .i64 ln, .int .i64 0] 32)
    rwa [show (w8.alloc (.cells #[.slice none 0 0, .int .i64 0] 25)).heap.size = w8.heap.size + 1 from by simp] at this)
  have z9 : w8.heap.size + 1 < ((w8.alloc (.cells #[.slice none 0 0, .int .i64 0] 25)).alloc (.cells #[.int .i64 4, .int .i64 ln, .int .i64 0] 32)).heap.size := by simp
  have C9 := Lib.hid ((C8.below (balloc (brefl w8) (.cells #[.slice none 0 0, .int .i64 0] 25))).below (balloc (brefl _) (.cells #[.int .i64 4, .int .i64 ln, .int .i64 0] 32)))
  have D9 := Lib.hid ((D8.below (balloc (brefl w8) (.cells #[.slice none 0 0, .int .i64 0] 25))).below (balloc (brefl _) (.cells #[.int .i64 4, .int .i64 ln, .int .i64 0] 32)))
  clear V8 X8 Y8 U8 W8 C8 D8 B8 OL
  go_upto_region 9 with fail
  generalize (w8.alloc (.cells #[.slice none 0 0, .int .i64 0] 25)).alloc (.cells #[.int .i64 4, .int .i64 ln, .int .i64 0] 32) = w9 at *
  have v0 := (Wd.cells_of V9.out 0).1
  have v1 := (Wd.cells_of V9.out 1).1
  have x0 := (Wd.cells_of X9.out 0).1
  have x1 := (Wd.cells_of X9.out 1).1
  have y0 := (Wd.cells_of Y9.out 0).1
  have y1 := (Wd.cells_of Y9.out 1).1
  have y2 := (Wd.cells_of Y9.out 2).1
  simp only [List.getElem?_toArray, List.getElem?_cons_zero, List.getElem?_cons_succ] at v0 v1 x0 x1 y0 y1 y2
  have S1 := Lib.hid (SC.out w9 _ _ (A0.out.below B9.out) D9.out)
  go_wp2_with fail
  refine S1.out.mono ?_
  rintro x wa ⟨rfl, hb⟩
  have Va := Lib.hid ((hb.block _ (by omega)).trans V9.out)
  have Wa := Lib.hid ((hb.block _ (by omega)).trans W9.out)
  have Ua := Lib.hid ((hb.block _ (by omega)).trans U9.out)
  have Ra := Lib.hid ((hb.block _ z9).trans R9.out)
  have za : w8.heap.size + 1 < wa.heap.size := Nat.lt_of_lt_of_le z9 hb.size
  have Ba := Lib.hid (bstep B9.out hb)
  have S2 := Lib.hid (SC.out wa _ _ (A0.out.below Ba.out) (C9.out.below hb))
  clear hb V9 X9 Y9 U9 W9 R9 C9 D9 B9 S1 v0 v1 x0 x1 y0 y1 y2
  have v0 := (Wd.cells_of Va.out 0).1
  have v1 := (Wd.cells_of Va.out 1).1
  have u0 := (Wd.cells_of Ua.out 0).1
  have u1 := (Wd.cells_of Ua.out 1).1
  have w0 := (Wd.cells_of Wa.out 0).1
  have w1 := (Wd.cells_of Wa.out 1).1
  have w2 := (Wd.cells_of Wa.out 2).1
  simp only [List.getElem?_toArray, List.getElem?_cons_zero, List.getElem?_cons_succ] at v0 v1 u0 u1 w0 w1 w2
  go_wp2_with fail
  refine S2.out.mono ?_
  rintro x wb ⟨rfl, hb⟩
  have Rb := (hb.block _ za).trans Ra.out
  have Bb := Lib.hid (bstep Ba.out hb)
  have r0 := (Wd.cells_of Rb 0).1
  simp only [List.getElem?_toArray, List.getElem?_cons_zero] at r0
  clear hb Rb v0 v1 u0 u1 w0 w1 w2
  go_wp2_with fail
  go_ret
  exact ⟨rfl, Bb.out⟩

theorem walk (vs : Value) (e : Int) (n : Nat) (a o : Nat → Int) (w : World) (GT : Hs.Gl w ∧ Cv.Tab w) (C : Lp.Cs w vs n a o) :
    Calls Tryd.prog 3 #[Lp.lv vs e] w fun x w' => x = .returned (.bool true) ∧ Below w.heap.size w w' := by
  by_cases h : Lp.Tb n a o e
  · exact walk_yes vs e n a o w GT.1 GT.2 C h
  · exact walk_no vs e n a o w C h

set_option maxRecDepth 100000 in
theorem lifted (os : Os) (started : os.Started) (H : Type) (enc : TypeId × Value → H) :
    ReturnsInHanded {} Tryd.checked os 3 .any (fun w args => (Rows.leapBackSpec.pre enc Tryd.prog Tryd.f3 [] false w args ∧ laidMetH Tryd.prog Rows.leapBackRow.laid w) ∧ sizedMet enc Tryd.prog Tryd.f3 (OpenSpec.ofChange Rows.leapBackSpec) false w args)
      (Rows.leapBackSpec.post enc Tryd.prog Tryd.f3 false true false false) := by
  refine returnsInHanded_of_change_and (C := Tryd.checked) (X := fun w _ => laidMetH Tryd.prog Rows.leapBackRow.laid w) (fun _ _ _ hh h => h.of_heap hh) own started (by kernel_rfl) Tryd.func3
    (ChangeSpec.witness_shaped (enc := enc) (C := Tryd.checked) (os := os) (X := fun w _ => laidMetH Tryd.prog Rows.leapBackRow.laid w) false (World.doorLaid Tryd.prog 38 os) #[.agg #[.slice none 0 0, .int .i64 0]] 8 rfl (World.shaped_of_RefB (by kernel_rfl) (by kernel_rfl)) (by kernel_rfl) (by kernel_rfl) (by kernel_rfl) (door_met os _)) ?_
  intro W base args ds gs before hval0 hW _ _ hL _
  have hval : ∀ (j : Nat) t v, Tryd.f3.params[j]? = some t → args[j]? = some v → Value.okWide Tryd.prog W .any base t v := hval0
  have hW' := hW
  obtain ⟨p, q, hA0, hV, rfl, hfz, hnd⟩ := hW
  have hA : DataW.TrodAll enc Tryd.prog W 0 (fun _ => true) true Tryd.f3.params.toList args.toList ds p := hA0
  rw [Tryd.params3] at hA hval
  obtain ⟨v0, vs0, d0, ds0, p0, q0, hargs, rfl, rfl, h0, r0⟩ := trodAll_cons hA
  obtain ⟨rfl, rfl, rfl⟩ := trodAll_nil r0
  obtain rfl : args = #[v0] := by cases args; simp_all
  obtain ⟨rfl, rfl⟩ := trodVars_none hV
  have h0k := h0
  have hlt0 : ∀ x ∈ p0, x.block < W.heap.size := fun x hx => by have := hW'.lt x (by simp [hx]); simpa using this
  obtain ⟨vs0', e0, n0, x0, y0, rfl, g0, i0⟩ := Lp.open_leaps (hval 0 25 v0 rfl rfl) h0
  clear hA0 hval0
  simp only [List.append_nil] at hW'
  refine (walk vs0' e0 n0 x0 y0 W (Hs.back_of_laid hL) g0).mono fun e W' ⟨he, hg⟩ => ?_
  subst he
  exact ⟨_, rfl, _, _, _, [], _, [], hW', trodAll_cons_mk (shut_bool Tryd.underlying4 _) trodAll_mk0,
    (trodAll_cons_mk (Below.trod laidOut (by kernel_rfl) (of_decide_eq_true (by kernel_rfl)) h0k hg hlt0) trodAll_mk0), rfl, hg.frame _, fun h => nomatch h⟩

theorem over : Rows.LeapBackSaid :=
  OpenClaim.holds_of_wide 3 Tryd.f3 rfl rfl rfl rfl rfl rfl rfl ⟨rfl, rfl, rfl, rfl, rfl⟩ rfl rfl rfl rfl rfl (by kernel_rfl) Tryd.func3 (by kernel_rfl)
    (of_decide_eq_true (by kernel_rfl)) (by unfold Func.isWrapper; first | (rw [if_pos (by decide +kernel)]; kernel_rfl) | (rw [if_neg (by decide +kernel)]; exact ⟨rfl, rfl⟩))
    (fun os started H enc _ => lifted os started H enc)

theorem proved : Rows.LeapBackCardSaid :=
  Claim7.holds_tied_plain_at .later [] [.data, .data, .data, .data, .data] true Rows.leapBackCard.stood.harness false
    over (fun _ h => by cases h) (by kernel_rfl) (fun _ h => by cases h) leapBack_row_tie rfl ⟨rfl, rfl⟩ (by kernel_rfl) rfl
    (fun f fn hf hfn => by
      obtain rfl : f = 3 := Option.some.inj ((show Tryd.prog.funcNamed Rows.leapBackRow.func = some 3 by kernel_rfl).symm.trans hf) |>.symm
      obtain rfl : fn = Tryd.f3 := (Option.some.inj (Tryd.func3.symm.trans hfn)).symm
      exact ⟨by kernel_rfl, fun j t ht => by
        rw [Tryd.params3] at ht
        have hm : t ∈ [25] := by simpa using Array.mem_of_getElem? ht
        have hall : ([25].all fun u => !Tryd.prog.wantsStandIn u) = true := by kernel_rfl
        exact (show Tryd.prog.wantsStandIn t = false by simpa using List.all_eq_true.1 hall t hm)⟩)
    (by kernel_rfl)
end Go.Proofs.YtmehknhajoemgaaDoor.leapBack
