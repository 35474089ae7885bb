/-
  WireKeep: No call changes what it is handed, and answers share no memory. The law returns true for every input, and the input reads as it did.
  Conditions: none.
-/
import Derived.Test.YtmjbnbjkpimjmaaRows
import Derived.Test.YtmjbnbjkpimjmaaWjH
import Derived.SizedLaws
import Derived.Lib.SmallJoins
namespace Go.Proofs.Ytmjbnbjkpimjmaa.wireKeep
open Go.ChangeShapes Go.WideShapes Go.ChangeAt Go.RowKit Go.Joins By Wi
set_option linter.unusedVariables false
set_option linter.unusedSimpArgs false

theorem own : ownKnob Try.prog.godebug = none := by kernel_rfl
theorem laidOut : laidOutB Try.prog = true := by kernel_rfl
/-- n bytes, whatever they are, that may be written. -/
def Wy (w : World) (b n : Nat) : Prop := b < w.heap.size ∧ ∀ i, i < n → (∃ x : Nat, w.cell? ⟨b, i, none⟩ = some (.int .u8 (x : Int))) ∧ w.frozen? ⟨b, i, none⟩ = false
theorem Wy.below {w w' : World} {b n : Nat} (h : Wy w b n) (k : Below w.heap.size w w') : Wy w' b n :=
  ⟨Nat.lt_of_lt_of_le h.1 k.size, fun i hi => ⟨(h.2 i hi).1.imp fun x e => (k.cell (p := ⟨b, i, none⟩) h.1).trans e, (k.frozen (p := ⟨b, i, none⟩) h.1).trans (h.2 i hi).2⟩⟩
theorem Wy.set {w : World} {b n : Nat} (h : Wy w b n) {g k : Nat} (x : Nat) (hg : ∃ y : Nat, w.cell? ⟨g, k, none⟩ = some (.int .u8 (y : Int))) : Wy (w.setCell ⟨g, k, none⟩ (.int .u8 (x : Int))) b n := by
  refine ⟨by simpa [World.setCell] using h.1, fun i hi => ⟨?_, by rw [World.frozen?_setCell]; exact (h.2 i hi).2⟩⟩
  by_cases e : (⟨b, i, none⟩ : Addr) = ⟨g, k, none⟩
  · rw [e]
    obtain ⟨y, hy⟩ := hg
    exact ⟨x, World.cell?_setCell_same _ _ _ hy⟩
  · rw [World.cell?_setCell_other _ _ _ _ (fun q => e q.symm)]
    exact (h.2 i hi).1
theorem own_wy {w : World} {base : Nat} {v : Value} {l : List Nat} (h : By.Own w base v l) : ∃ a c, v = .slice a l.length c ∧ l.length ≤ c ∧ c ≤ 9223372036854775807 ∧ (0 < l.length → ∃ g, a = some ⟨g, 0, none⟩ ∧ base ≤ g ∧ g < w.heap.size ∧ v.ownBlock = some g ∧ Wy w g l.length) := by
  rcases h.2 with ⟨hv, h0⟩ | ⟨g, cap, cur, hv, hb, hh, hc, hm, hcs, ht⟩
  · exact ⟨none, 0, by rw [hv, h0], by omega, by omega, fun h => by omega⟩
  · refine ⟨_, cap, hv, hc, by unfold maxLen at hm; omega, fun _ => ⟨g, rfl, hb, (Array.getElem?_eq_some_iff.1 hh).1, by rw [hv]; rfl, (Array.getElem?_eq_some_iff.1 hh).1, fun i hi => ?_⟩⟩
    rw [cell_of_row w g i cur _ (0, 0) hh]
    refine ⟨?_, frozen_of_row w g _ cur _ hh⟩
    have e : (cl l)[i]? = some (.int .u8 ((l.getD i 0 : Nat) : Int)) := by
      simp [cl, List.getD_eq_getElem?_getD, hi]
    rw [← ht, Nat.mul_one, List.getElem?_take, if_pos hi] at e
    exact ⟨_, by simpa using e⟩
/-- what the loops leave alone. -/
structure QM (w3 : World) (b1 : Nat) (ps : List Value) (base : Nat) (fv : Value) (row : List (Int × Value)) (db : Option Addr) (m4 : Nat) (z : World) : Prop where
  frame : Below w3.heap.size w3 z
  pk : Blk z b1 ps
  rows : OwnF z base fv row
  body : ∀ j, j < row.length → ∀ g m c, (row.getD j (0, .slice none 0 0)).2 = .slice (some ⟨g, 0, none⟩) m c → 0 < m → Wy z g m
  dig : ∀ g, db = some ⟨g, 0, none⟩ → 0 < m4 → Wy z g m4
theorem QM.set {w3 : World} {b1 : Nat} {ps : List Value} {base : Nat} {fv : Value} {row : List (Int × Value)} {db : Option Addr} {m4 : Nat} {z : World} (h : QM w3 b1 ps base fv row db m4 z) {g k : Nat} (x : Nat) (h1 : w3.heap.size ≤ g) (h2 : g ≠ b1) (h3 : fv.ownBlock ≠ some g)
    (hg : ∃ y : Nat, z.cell? ⟨g, k, none⟩ = some (.int .u8 (y : Int))) : QM w3 b1 ps base fv row db m4 (z.setCell ⟨g, k, none⟩ (.int .u8 (x : Int))) :=
  ⟨below_set h.frame h1 _ _, blk_other h.pk (Ne.symm h2) _ _, ⟨row_set h.rows.1 h3 _ _, h.rows.2⟩, fun j hj g' m c e hm => (h.body j hj g' m c e hm).set x hg, fun g' e hm => (h.dig g' e hm).set x hg⟩
theorem QM.below {w3 : World} {b1 : Nat} {ps : List Value} {base : Nat} {fv : Value} {row : List (Int × Value)} {db : Option Addr} {m4 : Nat} {z z' : World} (h : QM w3 b1 ps base fv row db m4 z) (k : Below z.heap.size z z') : QM w3 b1 ps base fv row db m4 z' :=
  ⟨bstep h.frame k, h.pk.below k, ⟨row_below h.rows.1 k, h.rows.2⟩, fun j hj g' m c e hm => (h.body j hj g' m c e hm).below k, fun g' e hm => (h.dig g' e hm).below k⟩
set_option maxRecDepth 100000 in
set_option maxHeartbeats 16000000 in
theorem walk_yes (p : Pk) (fv dv : Value) (V : Nat → Value) (v : Value) (n : Nat) (f : Nat → Nat) (w : World) (P : Pm w p fv dv V) (A : Arg w v n f) (c0 : rt p = true) :
    Calls Try.prog 7 #[PV p fv dv, v] w fun e w' => e = .returned (.bool true) ∧ Below w.heap.size w w' := by
  have S0 := A.sb
  have hf : ∀ i, f i < 256 := by obtain ⟨_, _, _, _, _, h, _⟩ := A; exact h
  have hn : n ≤ 140737488351232 := by obtain ⟨_, _, _, h1, h2, _⟩ := A; omega
  obtain ⟨sa, sc, rfl⟩ := S0.form
  have S := Lib.hid S0
  clear A S0
  have PM := Lib.hid P
  obtain ⟨fa, fc, rfl⟩ := P.1.form
  obtain ⟨da, dc, rfl⟩ := P.2.1.form
  clear P
  have AW := fun z => Lib.hid (awake9_c z)
  have B1 := Lib.hid (balloc (brefl w) (.cells #[.int .i64 p.leap, .int .i64 p.ver, .int .i64 p.mode, .int .i64 p.strat, .int .i64 p.poll, .int .i64 p.prec, .int .u32 (p.rd : Nat), .int .u32 (p.rs : Nat), .int .u32 (p.rid : Nat), .int .u64 (p.tref : Nat), .int .u64 (p.torg : Nat), .int .u64 (p.trec : Nat), .int .u64 (p.txm : Nat), .slice fa p.fs.length fc, .int .i64 p.auth, .int .u32 (p.key : Nat), .slice da p.dig.length dc] 30))
  have NP : Hid (Blk (w.alloc (.cells #[.int .i64 p.leap, .int .i64 p.ver, .int .i64 p.mode, .int .i64 p.strat, .int .i64 p.poll, .int .i64 p.prec, .int .u32 (p.rd : Nat), .int .u32 (p.rs : Nat), .int .u32 (p.rid : Nat), .int .u64 (p.tref : Nat), .int .u64 (p.torg : Nat), .int .u64 (p.trec : Nat), .int .u64 (p.txm : Nat), .slice fa p.fs.length fc, .int .i64 p.auth, .int .u32 (p.key : Nat), .slice da p.dig.length dc] 30)) w.heap.size (pvs p (.slice fa p.fs.length fc) (.slice da p.dig.length dc))) := Lib.hid (Blk.new' w #[.int .i64 p.leap, .int .i64 p.ver, .int .i64 p.mode, .int .i64 p.strat, .int .i64 p.poll, .int .i64 p.prec, .int .u32 (p.rd : Nat), .int .u32 (p.rs : Nat), .int .u32 (p.rid : Nat), .int .u64 (p.tref : Nat), .int .u64 (p.torg : Nat), .int .u64 (p.trec : Nat), .int .u64 (p.txm : Nat), .slice fa p.fs.length fc, .int .i64 p.auth, .int .u32 (p.key : Nat), .slice da p.dig.length dc] 30)
  go_enter Try.func7, Try.ntmps7
  go_wp2_with fail
  generalize w.alloc (.cells #[.int .i64 p.leap, .int .i64 p.ver, .int .i64 p.mode, .int .i64 p.strat, .int .i64 p.poll, .int .i64 p.prec, .int .u32 (p.rd : Nat), .int .u32 (p.rs : Nat), .int .u32 (p.rid : Nat), .int .u64 (p.tref : Nat), .int .u64 (p.torg : Nat), .int .u64 (p.trec : Nat), .int .u64 (p.txm : Nat), .slice fa p.fs.length fc, .int .i64 p.auth, .int .u32 (p.key : Nat), .slice da p.dig.length dc] 30) = w1 at *
  refine (AW w1).out.mono ?_
  rintro e w2 ⟨rfl, hb⟩
  have C2 := Lib.hid hb
  clear hb AW
  have B2 := Lib.hid (bstep B1.out C2.out)
  have CW := S.out.conv B2.out
  obtain ⟨SW, hSW⟩ : ∃ s, bs8 (bl f n) = s := ⟨_, rfl⟩
  rw [hSW] at CW
  have HSW := Lib.hid hSW
  clear hSW
  go_upto_region 4 with fail
  clear CW
  have BA := Lib.hid (B2.out.trans ((balloc (brefl w2) (.cells #[] 5)).mono B2.out.size))
  obtain ⟨v2, wa, r2, o2, b2, s2, nn2⟩ := S.out.app BA.out (own0 w2 w2.heap.size (Nat.le_refl _)) (by simp) (by simp; omega) 28
  rw [List.nil_append] at o2
  obtain ⟨v3, w3, r3, o3, b3, s3⟩ := app1 o2 71 (by have := s2; simp at this; omega) (by rw [bl_len]; omega) 28
  have R2 := Lib.hid r2
  have L3 : (bl f n ++ [71]).length = n + 1 := by rw [List.length_append, bl_len]; rfl
  obtain ⟨g, cx, rfl, hg1, hbx, hc1, hc2⟩ := o3.bsC (by rw [L3]; omega) (by
    intro x hx
    simp only [bl, List.mem_append, List.mem_map, List.mem_range, List.mem_cons, List.not_mem_nil, or_false] at hx
    rcases hx with ⟨i, _, rfl⟩ | rfl
    · exact hf i
    · omega)
  have R3 := Lib.hid r3
  rw [L3] at hc1
  rw [L3] at R3
  have X3 : Hid (Bs w3 g 0 n f) := Lib.hid ⟨hbx.1, hf, fun i hi => by
    rw [hbx.2.2 i (by rw [L3]; omega)]
    show some (Value.int .u8 (((bl f n ++ [71]).getD i 0 : Nat) : Int)) = _
    rw [bl_get hi]⟩
  have Y3 : Hid (w3.cell? ⟨g, n, none⟩ = some (.int .u8 71)) := Lib.hid (by
    have y0 := hbx.2.2 n (by rw [L3]; omega)
    rw [Nat.zero_add] at y0
    rw [y0]
    show some (Value.int .u8 (((bl f n ++ [71]).getD n 0 : Nat) : Int)) = _
    have e0 := app_get f n 0 [71]
    rw [Nat.add_zero] at e0
    rw [e0]
    rfl)
  have C3 := Lib.hid (bstep C2.out (((balloc (brefl w2) (.cells #[] 5)).trans b2).trans b3))
  have hgl : g < w3.heap.size := hbx.1
  have hc1' : (n : Int) + 1 ≤ (cx : Int) := by omega
  have hc2' : (cx : Int) ≤ 9223372036854775807 := by omega
  have hc3' : (n : Int) ≤ (cx : Int) := by omega
  have n0' : (0 : Int) ≤ (n : Int) := by omega
  have hn' : (n : Int) ≤ 140737488351232 := by omega
  have SX := Lib.hid (show Sb w3 (.slice (some ⟨g, 0, none⟩) n cx) n f from ⟨_, cx, rfl, by omega, hc2, hf, fun _ => ⟨g, 0, rfl, X3.out⟩, fun e => by cases e⟩)
  clear r2 o2 b2 s2 nn2 r3 o3 b3 s3 hbx BA C2 B2
  go_upto_region 6 with (first | (at_builtin; refine wpList_append_eq rfl (.tmp 30) (.tmp 31) 28 rfl _ _ v2 wa rfl rfl R2.out ?_) | (at_builtin; refine wpList_append_eq rfl (.tmp 32) (.tmp 33) 28 rfl _ _ _ w3 rfl rfl R3.out ?_))
  clear R2 R3
  have HD := Lib.hid (Decode_any SX.out hn)
  have HS := Lib.hid (fun z (k : Below w3.heap.size w3 z) => Signed_any (SX.out.below k) hn)
  have HB : Hid (∀ x ∈ (if (dec f n).e = 0 then bl f (dec f n).a else []), x < 256) := Lib.hid (by
    split
    · exact bl_byte fun i _ => hf i
    · intro x hx; cases hx)
  unfold PSig at HS
  generalize (if (dec f n).e = 0 then bl f (dec f n).a else []) = SL at *
  generalize dec f n = D at *
  obtain ⟨er, q, ea⟩ := D
  simp only at HD HS
  go_wp2_with fail
  refine HD.out.mono ?_
  rintro e w4 ⟨⟨fv, dv, row, rfl, r1, o1⟩, hb⟩
  simp only at r1 o1
  have D4 := Lib.hid hb
  obtain ⟨fb, gc, ef, h31, h32, h33⟩ := ownF_cell r1.2.1
  obtain ⟨db, hc, ed, h41, h42, h43⟩ := own_wy o1
  have HBD : Hid (∀ j, j < row.length → ∃ a m c, (row.getD j (0, .slice none 0 0)).2 = .slice a m c ∧ m ≤ c ∧ c ≤ 9223372036854775807 ∧ m ≤ 9223372036854775807 ∧ (0 < m → ∃ g, a = some ⟨g, 0, none⟩ ∧ w3.heap.size ≤ g ∧ g < w4.heap.size ∧ fv.ownBlock ≠ some g ∧ Wy w4 g m)) := Lib.hid (fun j hj => by
    have ob := (r1.2.2 j (by rw [← r1.1]; exact hj)).2
    obtain ⟨a, c, e, l1, l2, l3⟩ := own_wy ob
    refine ⟨a, _, c, e, l1, l2, ?_, fun h => ?_⟩
    · rcases ob.2 with ⟨_, h0⟩ | ⟨_, _, _, hv, _, _, hcc, hm, _⟩
      · omega
      · unfold maxLen at hm; rw [hv] at e; cases e; omega
    · obtain ⟨g, e1, e2, e3, e4, e5⟩ := l3 h
      exact ⟨g, e1, e2, e3, fun q => rows_ne ob r1.2.1.1 types_ne g e4 q, e5⟩)
  have RW := Lib.hid r1.2.1
  have HF3 := Lib.hid h33
  have HF4 := Lib.hid h43
  generalize hm4 : q.dig.length = m4 at *
  generalize hm3 : row.length = m3 at *
  have hm4' : (m4 : Int) ≤ 9223372036854775807 := by
    rcases o1.2 with ⟨_, h0⟩ | ⟨_, _, _, hv, _, _, hcc, hm, _⟩
    · omega
    · unfold maxLen at hm; omega
  have hm3' : (m3 : Int) ≤ 9223372036854775807 := by
    rcases r1.2.1.1.2 with ⟨_, h0⟩ | ⟨_, _, _, hv, _, _, hcc, hm, _⟩
    · omega
    · unfold maxLen at hm; omega
  subst ef ed
  have h31' : (m3 : Int) ≤ (gc : Int) := by omega
  have h32' : (gc : Int) ≤ 9223372036854775807 := by omega
  have h41' : (m4 : Int) ≤ (hc : Int) := by omega
  have h42' : (hc : Int) ≤ 9223372036854775807 := by omega
  clear HD r1 o1 hb h33 h43 h31 h32 h41 h42
  go_upto_region 7 with fail
  have N5 : Hid (Blk (w4.alloc (.cells #[.int .i64 q.leap, .int .i64 q.ver, .int .i64 q.mode, .int .i64 q.strat, .int .i64 q.poll, .int .i64 q.prec, .int .u32 (q.rd : Nat), .int .u32 (q.rs : Nat), .int .u32 (q.rid : Nat), .int .u64 (q.tref : Nat), .int .u64 (q.torg : Nat), .int .u64 (q.trec : Nat), .int .u64 (q.txm : Nat), .slice fb m3 gc, .int .i64 q.auth, .int .u32 (q.key : Nat), .slice db m4 hc] 30)) w4.heap.size (pvs q (.slice fb m3 gc) (.slice db m4 hc))) := Lib.hid (Blk.new' w4 #[.int .i64 q.leap, .int .i64 q.ver, .int .i64 q.mode, .int .i64 q.strat, .int .i64 q.poll, .int .i64 q.prec, .int .u32 (q.rd : Nat), .int .u32 (q.rs : Nat), .int .u32 (q.rid : Nat), .int .u64 (q.tref : Nat), .int .u64 (q.torg : Nat), .int .u64 (q.trec : Nat), .int .u64 (q.txm : Nat), .slice fb m3 gc, .int .i64 q.auth, .int .u32 (q.key : Nat), .slice db m4 hc] 30)
  have BQ := Lib.hid (balloc (brefl w4) (.cells #[.int .i64 q.leap, .int .i64 q.ver, .int .i64 q.mode, .int .i64 q.strat, .int .i64 q.poll, .int .i64 q.prec, .int .u32 (q.rd : Nat), .int .u32 (q.rs : Nat), .int .u32 (q.rid : Nat), .int .u64 (q.tref : Nat), .int .u64 (q.torg : Nat), .int .u64 (q.trec : Nat), .int .u64 (q.txm : Nat), .slice fb m3 gc, .int .i64 q.auth, .int .u32 (q.key : Nat), .slice db m4 hc] 30))
  have D5 := Lib.hid (bstep D4.out BQ.out)
  have Q5 : Hid (QM w3 w4.heap.size (pvs q (.slice fb m3 gc) (.slice db m4 hc)) w3.heap.size (.slice fb m3 gc) row db m4 (w4.alloc (.cells #[.int .i64 q.leap, .int .i64 q.ver, .int .i64 q.mode, .int .i64 q.strat, .int .i64 q.poll, .int .i64 q.prec, .int .u32 (q.rd : Nat), .int .u32 (q.rs : Nat), .int .u32 (q.rid : Nat), .int .u64 (q.tref : Nat), .int .u64 (q.torg : Nat), .int .u64 (q.trec : Nat), .int .u64 (q.txm : Nat), .slice fb m3 gc, .int .i64 q.auth, .int .u32 (q.key : Nat), .slice db m4 hc] 30))) := Lib.hid ⟨D5.out, N5.out, ⟨row_below RW.out.1 BQ.out, RW.out.2⟩, fun j hj g' m c e hm => by
    rw [hm3] at hj
    obtain ⟨a, m', c', e', _, _, _, k⟩ := HBD.out j hj
    rw [e'] at e
    cases e
    obtain ⟨g, e1, _, _, _, k5⟩ := k hm
    cases e1
    exact k5.below BQ.out, fun g' e hm => by
      obtain ⟨g, e1, _, _, _, k5⟩ := HF4.out hm
      rw [e1] at e
      cases e
      exact k5.below BQ.out⟩
  have HF4' : Hid (0 < m4 → ∃ g, db = some ⟨g, 0, none⟩ ∧ w3.heap.size ≤ g ∧ g < w4.heap.size) := Lib.hid (fun h => by obtain ⟨g, e1, e2, e3, _⟩ := HF4.out h; exact ⟨g, e1, e2, e3⟩)
  have HBD' : Hid (∀ j, j < m3 → ∃ a m c, (row.getD j (0, .slice none 0 0)).2 = .slice a m c ∧ m ≤ c ∧ c ≤ 9223372036854775807 ∧ m ≤ 9223372036854775807 ∧ (0 < m → ∃ g, a = some ⟨g, 0, none⟩ ∧ w3.heap.size ≤ g ∧ g < w4.heap.size ∧ (Value.slice fb m3 gc).ownBlock ≠ some g)) := Lib.hid (fun j hj => by
    obtain ⟨a, m', c', e', k1, k2, k3, k⟩ := HBD.out j hj
    exact ⟨a, m', c', e', k1, k2, k3, fun h => by obtain ⟨g, e1, e2, e3, e4, _⟩ := k h; exact ⟨g, e1, e2, e3, e4⟩⟩)
  have HF3' : Hid (0 < m3 → ∃ g, fb = some ⟨g, 0, none⟩) := Lib.hid (fun h => by obtain ⟨g, e1, _⟩ := HF3.out h; exact ⟨g, e1⟩)
  clear HBD HF4 HF3 RW BQ D4 N5
  generalize w4.alloc (.cells #[.int .i64 q.leap, .int .i64 q.ver, .int .i64 q.mode, .int .i64 q.strat, .int .i64 q.poll, .int .i64 q.prec, .int .u32 (q.rd : Nat), .int .u32 (q.rs : Nat), .int .u32 (q.rid : Nat), .int .u64 (q.tref : Nat), .int .u64 (q.torg : Nat), .int .u64 (q.trec : Nat), .int .u64 (q.txm : Nat), .slice fb m3 gc, .int .i64 q.auth, .int .u32 (q.key : Nat), .slice db m4 hc] 30) = w5 at *
  have l15 : w4.heap.size < w5.heap.size := Q5.out.pk.1
  generalize w4.heap.size = b1 at *
  go_wp2_with fail
  refine (HS.out _ D5.out).mono ?_
  rintro e w6 ⟨⟨v1, rfl, o1⟩, hb⟩
  obtain ⟨a1, c1, e1, l11, l12, l13⟩ := own_wy o1
  have H1 : Hid (0 < SL.length → ∃ g, a1 = some ⟨g, 0, none⟩ ∧ w5.heap.size ≤ g ∧ Wy w6 g SL.length) := Lib.hid (fun h => by obtain ⟨g, e1, e2, _, _, e5⟩ := l13 h; exact ⟨g, e1, e2, e5⟩)
  have hm1 : (SL.length : Int) ≤ 9223372036854775807 := by
    rcases o1.2 with ⟨_, h0⟩ | ⟨_, _, _, hv, _, _, hcc, hm, _⟩
    · omega
    · unfold maxLen at hm; omega
  subst e1
  generalize SL.length = m1 at *
  have l11' : (m1 : Int) ≤ (c1 : Int) := by omega
  have l12' : (c1 : Int) ≤ 9223372036854775807 := by omega
  have B56 := Lib.hid hb
  have SX3 := Lib.hid SX.out
  clear HS o1 hb l13 HB SX l11 l12
  go_wp2_with fail
  go_loopw [12] (fun iv wr => ∃ k : Nat, k ≤ m1 ∧ iv = .int .i64 k ∧ Below w5.heap.size w5 wr ∧ ∀ g, a1 = some ⟨g, 0, none⟩ → 0 < m1 → Wy wr g m1) (fun iv _ => m1 - (intOf iv).toNat)
  case atStart => exact ⟨0, Nat.zero_le _, rfl, B56.out, fun g' e hm => by obtain ⟨g, e1, _, e5⟩ := H1.out hm; rw [e1] at e; cases e; exact e5⟩
  case round =>
    obtain ⟨k, hk, rfl, hb, hw⟩ := hrel
    rename World => w7
    have HB := Lib.hid hb
    have HW := Lib.hid hw
    clear hb hw B56
    by_cases c : k < m1
    · have e1 : decide ((k : Int) < (m1 : Int)) = true := decide_eq_true (by omega)
      have k1 : (k : Int) < (m1 : Int) := by omega
      obtain ⟨gs, rfl, hgs, _⟩ := H1.out (by omega)
      have wy := HW.out gs rfl (by omega)
      obtain ⟨⟨xx, cxx⟩, fxx⟩ := wy.2 k c
      have WN := Lib.hid (fun g' (e : some (⟨gs, 0, none⟩ : Addr) = some ⟨g', 0, none⟩) (hm : 0 < m1) => (by cases e; exact wy.set 9 ⟨xx, cxx⟩ : Wy (w7.setCell ⟨gs, k, none⟩ (.int .u8 ((9 : Nat) : Int))) g' m1))
      have BN := Lib.hid (below_set HB.out hgs k (.int .u8 9))
      clear wy
      go_wp2_with fail
      exact ⟨⟨k + 1, by omega, by go_num, BN.out, WN.out⟩, by simp [intOf]; omega⟩
    · have e1 : decide ((k : Int) < (m1 : Int)) = false := decide_eq_false (by omega)
      have Q7 := Lib.hid (Q5.out.below HB.out)
      have l17 := Nat.lt_of_lt_of_le l15 HB.out.size
      clear HB HW Q5 H1
      go_wp2_with fail
      clear e1
      go_loopw [13] (fun iv wr => ∃ k : Nat, k ≤ m3 ∧ iv = .int .i64 k ∧ QM w3 b1 (pvs q (.slice fb m3 gc) (.slice db m4 hc)) w3.heap.size (.slice fb m3 gc) row db m4 wr) (fun iv _ => m3 - (intOf iv).toNat)
      case atStart => exact ⟨0, Nat.zero_le _, rfl, Q7.out⟩
      case round =>
        obtain ⟨j, hj, rfl, hq⟩ := hrel
        rename World => w8
        have Q8 := Lib.hid hq
        clear hq Q7
        have y13 : w8.cell? ⟨b1, 13, none⟩ = some (.slice fb m3 gc) := (Q8.out.pk.2 13 _ rfl).1
        by_cases c3 : j < m3
        · have e3 : decide ((j : Int) < (m3 : Int)) = true := decide_eq_true (by omega)
          have k3 : (j : Int) < (m3 : Int) := by omega
          obtain ⟨ab, mb, cb, eb, lb1, lb2, lb3, HG⟩ := HBD'.out j c3
          have HG := Lib.hid HG
          have EB := Lib.hid eb
          have lb1' : (mb : Int) ≤ (cb : Int) := by omega
          have lb2' : (cb : Int) ≤ 9223372036854775807 := by omega
          have lb3' : (mb : Int) ≤ 9223372036854775807 := by omega
          clear eb lb1 lb2 lb3
          go_wp2_with fail
          clear y13
          go_loopw [14] (fun iv wr => ∃ k : Nat, k ≤ mb ∧ iv = .int .i64 k ∧ QM w3 b1 (pvs q (.slice fb m3 gc) (.slice db m4 hc)) w3.heap.size (.slice fb m3 gc) row db m4 wr) (fun iv _ => mb - (intOf iv).toNat)
          case atStart => exact ⟨0, Nat.zero_le _, rfl, Q8.out⟩
          case round =>
            obtain ⟨i, hi, rfl, hq⟩ := hrel
            rename World => w9
            have Q9 := Lib.hid hq
            clear hq Q8
            have y13 : w9.cell? ⟨b1, 13, none⟩ = some (.slice fb m3 gc) := (Q9.out.pk.2 13 _ rfl).1
            obtain ⟨gF, rfl⟩ := HF3'.out (by omega)
            obtain ⟨_, _, ec, _, _, hcl⟩ := ownF_cell Q9.out.rows
            cases ec
            obtain ⟨gF', eg, hgF, hcl⟩ := hcl (by rw [hm3]; omega)
            cases eg
            have z1 := (hcl j (by rw [hm3]; exact c3)).2
            rw [EB.out] at z1
            clear hcl
            by_cases c4 : i < mb
            · have e4 : decide ((i : Int) < (mb : Int)) = true := decide_eq_true (by omega)
              have k4 : (i : Int) < (mb : Int) := by omega
              obtain ⟨gb, rfl, hb1, hb2, hb3⟩ := HG.out (by omega)
              have wy := Q9.out.body j (by rw [hm3]; exact c3) gb mb cb EB.out (by omega)
              obtain ⟨⟨xx, cxx⟩, fxx⟩ := wy.2 i c4
              have QN := Lib.hid (Q9.out.set (k := i) 8 hb1 (Nat.ne_of_lt hb2) hb3 ⟨xx, cxx⟩)
              clear wy
              go_wp2_with fail
              exact ⟨⟨i + 1, by omega, by go_num, QN.out⟩, by simp [intOf]; omega⟩
            · have e4 : decide ((i : Int) < (mb : Int)) = false := decide_eq_false (by omega)
              go_wp2_with fail
              exact ⟨⟨j + 1, by omega, by go_num, Q9.out⟩, by simp [intOf]; omega⟩
        · have e3 : decide ((j : Int) < (m3 : Int)) = false := decide_eq_false (by omega)
          go_wp2_with fail
          clear y13 e3 HBD' HF3'
          go_loopw [15] (fun iv wr => ∃ k : Nat, k ≤ m4 ∧ iv = .int .i64 k ∧ Below w3.heap.size w3 wr ∧ Blk wr b1 (pvs q (.slice fb m3 gc) (.slice db m4 hc)) ∧ ∀ g, db = some ⟨g, 0, none⟩ → 0 < m4 → Wy wr g m4 ∧ ∀ i, i < k → wr.cell? ⟨g, i, none⟩ = some (.int .u8 7)) (fun iv _ => m4 - (intOf iv).toNat)
          case atStart => exact ⟨0, Nat.zero_le _, rfl, Q8.out.frame, Q8.out.pk, fun g' e hm => ⟨Q8.out.dig g' e hm, fun i hi => absurd hi (by omega)⟩⟩
          case round =>
            obtain ⟨k, hk, rfl, hb, hp, hw⟩ := hrel
            rename World => wd
            have HB := Lib.hid hb
            have HP := Lib.hid hp
            have HW := Lib.hid hw
            clear hb hp hw Q8
            have y16 : wd.cell? ⟨b1, 16, none⟩ = some (.slice db m4 hc) := (HP.out.2 16 _ rfl).1
            by_cases c4 : k < m4
            · have e4 : decide ((k : Int) < (m4 : Int)) = true := decide_eq_true (by omega)
              have k4 : (k : Int) < (m4 : Int) := by omega
              obtain ⟨gd, rfl, hd1, hd2⟩ := HF4'.out (by omega)
              obtain ⟨wy, w7⟩ := HW.out gd rfl (by omega)
              obtain ⟨⟨xx, cxx⟩, fxx⟩ := wy.2 k c4
              have WN := Lib.hid (fun g' (e : some (⟨gd, 0, none⟩ : Addr) = some ⟨g', 0, none⟩) (hm : 0 < m4) => (by
                cases e
                refine ⟨wy.set 7 ⟨xx, cxx⟩, fun i hi => ?_⟩
                by_cases q : i = k
                · subst q
                  exact World.cell?_setCell_same _ _ _ cxx
                · rw [World.cell?_setCell_other _ _ _ _ (fun e => q (by simpa using (congrArg Addr.off e).symm))]
                  exact w7 i (by omega) : Wy (wd.setCell ⟨gd, k, none⟩ (.int .u8 ((7 : Nat) : Int))) g' m4 ∧ ∀ i, i < k + 1 → (wd.setCell ⟨gd, k, none⟩ (.int .u8 ((7 : Nat) : Int))).cell? ⟨g', i, none⟩ = some (.int .u8 7)))
              have BN := Lib.hid (below_set HB.out hd1 k (.int .u8 7))
              have PN := Lib.hid (blk_other HP.out (Nat.ne_of_gt hd2) k (.int .u8 7))
              clear wy w7
              go_wp2_with fail
              exact ⟨⟨k + 1, by omega, by go_num, BN.out, PN.out, WN.out⟩, by simp [intOf]; omega⟩
            · have e4 : decide ((k : Int) < (m4 : Int)) = false := decide_eq_false (by omega)
              obtain rfl : k = m4 := by omega
              have CX := SX3.out.conv HB.out
              rw [HSW.out] at CX
              have CY : wd.cell? ⟨g, n, none⟩ = some (.int .u8 71) := (HB.out.cell (p := ⟨g, n, none⟩) hgl).trans Y3.out
              have n1' : (n : Int) < (n : Int) + 1 := by omega
              have E3 := Lib.hid (bstep C3.out HB.out)
              have E3s := Lib.hid (bstep C3.out HB.out)
              have NPl := Lib.hid NP.out.1
              by_cases ce : er = 0
              · have ee : (er == 0) = true := by simpa using ce
                go_wp2_with fail
                clear y16 e4 CX CY
                go_loopw [16] (fun iv wr => ∃ i : Nat, i ≤ k ∧ iv = .int .i64 i ∧ wr = wd) (fun iv _ => k - (intOf iv).toNat)
                case atStart => exact ⟨0, Nat.zero_le _, rfl, rfl⟩
                case round =>
                  obtain ⟨i, hi, rfl, rfl⟩ := hrel
                  have y16 : wr.cell? ⟨b1, 16, none⟩ = some (.slice db k hc) := (HP.out.2 16 _ rfl).1
                  by_cases c5 : i < k
                  · have e5 : decide ((i : Int) < (k : Int)) = true := decide_eq_true (by omega)
                    have k5 : (i : Int) < (k : Int) := by omega
                    obtain ⟨gd, rfl, hd1, hd2⟩ := HF4'.out (by omega)
                    have w7 := (HW.out gd rfl (by omega)).2 i c5
                    go_wp2_with fail
                    exact ⟨⟨i + 1, by omega, by go_num, by first | rfl | trivial⟩, by simp [intOf]; omega⟩
                  · have e5 : decide ((i : Int) < (k : Int)) = false := decide_eq_false (by omega)
                    clear HW HP
                    go_upto_region 31 with fail
                    clear HSW Y3 SX3 X3 S HF4'
                    have HE : Hid (∀ z, Below w.heap.size w z → Calls Try.prog 9 #[.agg (pvs p (.slice fa p.fs.length fc) (.slice da p.dig.length dc)).toArray] z fun e w' => (∃ v, e = .returned (.tuple #[v, .int .i64 0]) ∧ By.Own w' z.heap.size v (enc p)) ∧ Below z.heap.size z w') := Lib.hid (fun z (k : Below w.heap.size w z) => Encode_yes (PM.out.below k) c0)
                    have HR : Hid (∀ z, Below w.heap.size w z → Calls Try.prog 10 #[.agg (pvs p (.slice fa p.fs.length fc) (.slice da p.dig.length dc)).toArray] z fun e w' => (∃ v, e = .returned (.tuple #[v, .int .i64 0]) ∧ By.Own w' z.heap.size v (enc p)) ∧ Below z.heap.size z w') := Lib.hid (fun z (k : Below w.heap.size w z) => rEncode_yes (PM.out.below k) c0)
                    have BY := Lib.hid (enc_byte (rt_cut c0).1 PM.out.2.2)
                    have BD := Lib.hid (bstep B1.out E3.out)
                    have NPd := Lib.hid (NP.out.below E3.out)
                    have hl : (pvs p (.slice fa p.fs.length fc) (.slice da p.dig.length dc)).length = 17 := rfl
                    clear c0 NP E3 B1 PM
                    go_wp2_with (refine wpList_load_mid rfl 30 _ rfl _ 0 rfl (pvs p (.slice fa p.fs.length fc) (.slice da p.dig.length dc)) _ NPd.out.range Try.underlying30 rfl (by first | exact info_pk | (rw [hl]; exact info_pk) | (rw [hl1]; exact info_pk)) ?_)
                    refine (HE.out _ BD.out).mono ?_
                    rintro e x1 ⟨⟨va, rfl, oa⟩, hb⟩
                    obtain ⟨aa, ca, ea, la1, la2, la3⟩ := own_wy oa
                    have HA : Hid (0 < (enc p).length → ∃ g, aa = some ⟨g, 0, none⟩ ∧ wr.heap.size ≤ g ∧ g < x1.heap.size ∧ Wy x1 g (enc p).length) := Lib.hid (fun h => by obtain ⟨g, e1, e2, e3, _, e5⟩ := la3 h; exact ⟨g, e1, e2, e3, e5⟩)
                    have la1' : ((enc p).length : Int) ≤ (ca : Int) := by omega
                    have la2' : (ca : Int) ≤ 9223372036854775807 := by omega
                    subst ea
                    have BD1 := Lib.hid (bstep BD.out hb)
                    have F1 := Lib.hid hb
                    have NP1 := Lib.hid (NPd.out.below hb)
                    clear oa hb la3 la1 la2 NPd
                    go_upto_region 32 with fail
                    go_wp2_with (refine wpList_load_mid rfl 30 _ rfl _ 0 rfl (pvs p (.slice fa p.fs.length fc) (.slice da p.dig.length dc)) _ NP1.out.range Try.underlying30 rfl (by first | exact info_pk | (rw [hl]; exact info_pk) | (rw [hl1]; exact info_pk)) ?_)
                    refine (HE.out _ BD1.out).mono ?_
                    rintro e x2 ⟨⟨vc, rfl, oc⟩, hb⟩
                    obtain ⟨ac, cc, rfl⟩ := own_form oc
                    have OC2 := Lib.hid oc
                    have BD2 := Lib.hid (bstep BD1.out hb)
                    have F2 := Lib.hid (bstep F1.out hb)
                    have F12 := Lib.hid hb
                    have NP2 := Lib.hid (NP1.out.below hb)
                    clear oc hb NP1 HE
                    go_upto_region 33 with fail
                    go_wp2_with (refine wpList_load_mid rfl 30 _ rfl _ 0 rfl (pvs p (.slice fa p.fs.length fc) (.slice da p.dig.length dc)) _ NP2.out.range Try.underlying30 rfl (by first | exact info_pk | (rw [hl]; exact info_pk) | (rw [hl1]; exact info_pk)) ?_)
                    refine (HR.out _ BD2.out).mono ?_
                    rintro e x3 ⟨⟨vd, rfl, od⟩, hb⟩
                    obtain ⟨ad, cd, rfl⟩ := own_form od
                    have OD3 := Lib.hid od
                    have OC3 := Lib.hid (show By.Own x3 x1.heap.size _ (enc p) from own_below OC2.out hb)
                    have F3 := Lib.hid (bstep F2.out hb)
                    have F23 := Lib.hid (bstep F12.out hb)
                    have s12 := F12.out.size
                    have NP3 := Lib.hid (NP2.out.below hb)
                    have HW3 : Hid (∀ g, aa = some ⟨g, 0, none⟩ → 0 < (enc p).length → Wy x3 g (enc p).length) := Lib.hid (fun g e hm => by
                      obtain ⟨g', e1, _, _, e5⟩ := HA.out hm
                      rw [e1] at e
                      cases e
                      exact e5.below F23.out)
                    have lbw : w.heap.size < wr.heap.size := Nat.lt_of_lt_of_le NPl.out E3s.out.size
                    clear od hb NP2 OC2 F2
                    go_upto_region 34 with fail
                    generalize hML : (enc p).length = ML at *
                    go_wp2_with fail
                    go_loopw [23] (fun iv wv => ∃ k : Nat, k ≤ ML ∧ iv = .int .i64 k ∧ Below wr.heap.size wr wv ∧ By.Own wv x1.heap.size (.slice ac ML cc) (enc p) ∧ By.Own wv x2.heap.size (.slice ad ML cd) (enc p) ∧ Blk wv w.heap.size (pvs p (.slice fa p.fs.length fc) (.slice da p.dig.length dc)) ∧ ∀ g, aa = some ⟨g, 0, none⟩ → 0 < ML → Wy wv g ML) (fun iv _ => ML - (intOf iv).toNat)
                    case atStart => exact ⟨0, Nat.zero_le _, rfl, F3.out, OC3.out, OD3.out, NP3.out, HW3.out⟩
                    case round =>
                      obtain ⟨k6, hk6, rfl, hb, hoc, hod, hnp, hw⟩ := hrel
                      rename World => wz
                      have HB6 := Lib.hid hb
                      have OC := Lib.hid hoc
                      have OD := Lib.hid hod
                      have HNP := Lib.hid hnp
                      have HW6 := Lib.hid hw
                      clear hb hoc hod hnp hw F3 OC3 OD3 NP3 HW3
                      by_cases c6 : k6 < ML
                      · have e6 : decide ((k6 : Int) < (ML : Int)) = true := decide_eq_true (by omega)
                        have k6' : (k6 : Int) < (ML : Int) := by omega
                        obtain ⟨ga, rfl, hd1, hd2, _⟩ := HA.out (by omega)
                        have wy := HW6.out ga rfl (by omega)
                        obtain ⟨⟨xx, cxx⟩, fxx⟩ := wy.2 k6 c6
                        have WN := Lib.hid (fun g' (e : some (⟨ga, 0, none⟩ : Addr) = some ⟨g', 0, none⟩) (hm : 0 < ML) => (by cases e; exact wy.set 9 ⟨xx, cxx⟩ : Wy (wz.setCell ⟨ga, k6, none⟩ (.int .u8 ((9 : Nat) : Int))) g' ML))
                        have BN := Lib.hid (below_set HB6.out hd1 k6 (.int .u8 9))
                        have CN := Lib.hid (show By.Own _ _ _ _ from row_set (v := .slice ac ML cc) OC.out (b := ga) (fun q => by have := (By.Own.block OC.out) ga q; omega) k6 (.int .u8 9))
                        have DN := Lib.hid (show By.Own _ _ _ _ from row_set (v := .slice ad ML cd) OD.out (b := ga) (fun q => by have := (By.Own.block OD.out) ga q; omega) k6 (.int .u8 9))
                        have PN := Lib.hid (blk_other HNP.out (b' := ga) (by omega) k6 (.int .u8 9))
                        clear wy
                        go_wp2_with fail
                        exact ⟨⟨k6 + 1, by omega, by go_num, BN.out, CN.out, DN.out, PN.out, WN.out⟩, by simp [intOf]; omega⟩
                      · have e6 : decide ((k6 : Int) < (ML : Int)) = false := decide_eq_false (by omega)
                        have BZ := Lib.hid (bstep BD.out HB6.out)
                        clear HW6 HA
                        go_upto_region 38 with fail
                        go_wp2_with (refine wpList_load_mid rfl 30 _ rfl _ 0 rfl (pvs p (.slice fa p.fs.length fc) (.slice da p.dig.length dc)) _ HNP.out.range Try.underlying30 rfl (by first | exact info_pk | (rw [hl]; exact info_pk) | (rw [hl1]; exact info_pk)) ?_)
                        refine (HR.out _ BZ.out).mono ?_
                        rintro e x5 ⟨⟨vh, rfl, oh⟩, hb⟩
                        obtain ⟨ah, ch, rfl⟩ := own_form oh
                        have C1 := ((own_out OC.out BY.out).sb).conv hb
                        have C2 := ((own_out OD.out BY.out).sb).conv hb
                        have C3 := ((own_out oh BY.out).sb).conv (brefl x5)
                        have BX := Lib.hid (bstep BZ.out hb)
                        rw [bl_getD] at C1 C2 C3
                        rw [hML] at C3
                        generalize bs8 (enc p) = SB at *
                        clear OC OD oh hb
                        go_wp2_with fail
                        go_ret
                        exact ⟨rfl, BX.out⟩
              · have ee : (er == 0) = false := by simpa using ce
                clear HW HP
                have ce := Lib.hid ce
                go_upto_region 31 with fail
                clear HSW Y3 SX3 X3 S HF4'
                have HE : Hid (∀ z, Below w.heap.size w z → Calls Try.prog 9 #[.agg (pvs p (.slice fa p.fs.length fc) (.slice da p.dig.length dc)).toArray] z fun e w' => (∃ v, e = .returned (.tuple #[v, .int .i64 0]) ∧ By.Own w' z.heap.size v (enc p)) ∧ Below z.heap.size z w') := Lib.hid (fun z (k : Below w.heap.size w z) => Encode_yes (PM.out.below k) c0)
                have HR : Hid (∀ z, Below w.heap.size w z → Calls Try.prog 10 #[.agg (pvs p (.slice fa p.fs.length fc) (.slice da p.dig.length dc)).toArray] z fun e w' => (∃ v, e = .returned (.tuple #[v, .int .i64 0]) ∧ By.Own w' z.heap.size v (enc p)) ∧ Below z.heap.size z w') := Lib.hid (fun z (k : Below w.heap.size w z) => rEncode_yes (PM.out.below k) c0)
                have BY := Lib.hid (enc_byte (rt_cut c0).1 PM.out.2.2)
                have BD := Lib.hid (bstep B1.out E3.out)
                have NPd := Lib.hid (NP.out.below E3.out)
                have hl : (pvs p (.slice fa p.fs.length fc) (.slice da p.dig.length dc)).length = 17 := rfl
                clear c0 NP E3 B1 PM
                go_wp2_with (refine wpList_load_mid rfl 30 _ rfl _ 0 rfl (pvs p (.slice fa p.fs.length fc) (.slice da p.dig.length dc)) _ NPd.out.range Try.underlying30 rfl (by first | exact info_pk | (rw [hl]; exact info_pk) | (rw [hl1]; exact info_pk)) ?_)
                refine (HE.out _ BD.out).mono ?_
                rintro e x1 ⟨⟨va, rfl, oa⟩, hb⟩
                obtain ⟨aa, ca, ea, la1, la2, la3⟩ := own_wy oa
                have HA : Hid (0 < (enc p).length → ∃ g, aa = some ⟨g, 0, none⟩ ∧ wd.heap.size ≤ g ∧ g < x1.heap.size ∧ Wy x1 g (enc p).length) := Lib.hid (fun h => by obtain ⟨g, e1, e2, e3, _, e5⟩ := la3 h; exact ⟨g, e1, e2, e3, e5⟩)
                have la1' : ((enc p).length : Int) ≤ (ca : Int) := by omega
                have la2' : (ca : Int) ≤ 9223372036854775807 := by omega
                subst ea
                have BD1 := Lib.hid (bstep BD.out hb)
                have F1 := Lib.hid hb
                have NP1 := Lib.hid (NPd.out.below hb)
                clear oa hb la3 la1 la2 NPd
                go_upto_region 32 with fail
                go_wp2_with (refine wpList_load_mid rfl 30 _ rfl _ 0 rfl (pvs p (.slice fa p.fs.length fc) (.slice da p.dig.length dc)) _ NP1.out.range Try.underlying30 rfl (by first | exact info_pk | (rw [hl]; exact info_pk) | (rw [hl1]; exact info_pk)) ?_)
                refine (HE.out _ BD1.out).mono ?_
                rintro e x2 ⟨⟨vc, rfl, oc⟩, hb⟩
                obtain ⟨ac, cc, rfl⟩ := own_form oc
                have OC2 := Lib.hid oc
                have BD2 := Lib.hid (bstep BD1.out hb)
                have F2 := Lib.hid (bstep F1.out hb)
                have F12 := Lib.hid hb
                have NP2 := Lib.hid (NP1.out.below hb)
                clear oc hb NP1 HE
                go_upto_region 33 with fail
                go_wp2_with (refine wpList_load_mid rfl 30 _ rfl _ 0 rfl (pvs p (.slice fa p.fs.length fc) (.slice da p.dig.length dc)) _ NP2.out.range Try.underlying30 rfl (by first | exact info_pk | (rw [hl]; exact info_pk) | (rw [hl1]; exact info_pk)) ?_)
                refine (HR.out _ BD2.out).mono ?_
                rintro e x3 ⟨⟨vd, rfl, od⟩, hb⟩
                obtain ⟨ad, cd, rfl⟩ := own_form od
                have OD3 := Lib.hid od
                have OC3 := Lib.hid (show By.Own x3 x1.heap.size _ (enc p) from own_below OC2.out hb)
                have F3 := Lib.hid (bstep F2.out hb)
                have F23 := Lib.hid (bstep F12.out hb)
                have s12 := F12.out.size
                have NP3 := Lib.hid (NP2.out.below hb)
                have HW3 : Hid (∀ g, aa = some ⟨g, 0, none⟩ → 0 < (enc p).length → Wy x3 g (enc p).length) := Lib.hid (fun g e hm => by
                  obtain ⟨g', e1, _, _, e5⟩ := HA.out hm
                  rw [e1] at e
                  cases e
                  exact e5.below F23.out)
                have lbw : w.heap.size < wd.heap.size := Nat.lt_of_lt_of_le NPl.out E3s.out.size
                clear od hb NP2 OC2 F2
                go_upto_region 34 with fail
                generalize hML : (enc p).length = ML at *
                go_wp2_with fail
                go_loopw [23] (fun iv wv => ∃ k : Nat, k ≤ ML ∧ iv = .int .i64 k ∧ Below wd.heap.size wd wv ∧ By.Own wv x1.heap.size (.slice ac ML cc) (enc p) ∧ By.Own wv x2.heap.size (.slice ad ML cd) (enc p) ∧ Blk wv w.heap.size (pvs p (.slice fa p.fs.length fc) (.slice da p.dig.length dc)) ∧ ∀ g, aa = some ⟨g, 0, none⟩ → 0 < ML → Wy wv g ML) (fun iv _ => ML - (intOf iv).toNat)
                case atStart => exact ⟨0, Nat.zero_le _, rfl, F3.out, OC3.out, OD3.out, NP3.out, HW3.out⟩
                case round =>
                  obtain ⟨k6, hk6, rfl, hb, hoc, hod, hnp, hw⟩ := hrel
                  rename World => wz
                  have HB6 := Lib.hid hb
                  have OC := Lib.hid hoc
                  have OD := Lib.hid hod
                  have HNP := Lib.hid hnp
                  have HW6 := Lib.hid hw
                  clear hb hoc hod hnp hw F3 OC3 OD3 NP3 HW3
                  by_cases c6 : k6 < ML
                  · have e6 : decide ((k6 : Int) < (ML : Int)) = true := decide_eq_true (by omega)
                    have k6' : (k6 : Int) < (ML : Int) := by omega
                    obtain ⟨ga, rfl, hd1, hd2, _⟩ := HA.out (by omega)
                    have wy := HW6.out ga rfl (by omega)
                    obtain ⟨⟨xx, cxx⟩, fxx⟩ := wy.2 k6 c6
                    have WN := Lib.hid (fun g' (e : some (⟨ga, 0, none⟩ : Addr) = some ⟨g', 0, none⟩) (hm : 0 < ML) => (by cases e; exact wy.set 9 ⟨xx, cxx⟩ : Wy (wz.setCell ⟨ga, k6, none⟩ (.int .u8 ((9 : Nat) : Int))) g' ML))
                    have BN := Lib.hid (below_set HB6.out hd1 k6 (.int .u8 9))
                    have CN := Lib.hid (show By.Own _ _ _ _ from row_set (v := .slice ac ML cc) OC.out (b := ga) (fun q => by have := (By.Own.block OC.out) ga q; omega) k6 (.int .u8 9))
                    have DN := Lib.hid (show By.Own _ _ _ _ from row_set (v := .slice ad ML cd) OD.out (b := ga) (fun q => by have := (By.Own.block OD.out) ga q; omega) k6 (.int .u8 9))
                    have PN := Lib.hid (blk_other HNP.out (b' := ga) (by omega) k6 (.int .u8 9))
                    clear wy
                    go_wp2_with fail
                    exact ⟨⟨k6 + 1, by omega, by go_num, BN.out, CN.out, DN.out, PN.out, WN.out⟩, by simp [intOf]; omega⟩
                  · have e6 : decide ((k6 : Int) < (ML : Int)) = false := decide_eq_false (by omega)
                    have BZ := Lib.hid (bstep BD.out HB6.out)
                    clear HW6 HA
                    go_upto_region 38 with fail
                    go_wp2_with (refine wpList_load_mid rfl 30 _ rfl _ 0 rfl (pvs p (.slice fa p.fs.length fc) (.slice da p.dig.length dc)) _ HNP.out.range Try.underlying30 rfl (by first | exact info_pk | (rw [hl]; exact info_pk) | (rw [hl1]; exact info_pk)) ?_)
                    refine (HR.out _ BZ.out).mono ?_
                    rintro e x5 ⟨⟨vh, rfl, oh⟩, hb⟩
                    obtain ⟨ah, ch, rfl⟩ := own_form oh
                    have C1 := ((own_out OC.out BY.out).sb).conv hb
                    have C2 := ((own_out OD.out BY.out).sb).conv hb
                    have C3 := ((own_out oh BY.out).sb).conv (brefl x5)
                    have BX := Lib.hid (bstep BZ.out hb)
                    rw [bl_getD] at C1 C2 C3
                    rw [hML] at C3
                    generalize bs8 (enc p) = SB at *
                    clear OC OD oh hb
                    go_wp2_with fail
                    go_ret
                    exact ⟨rfl, BX.out⟩
set_option maxRecDepth 100000 in
set_option maxHeartbeats 16000000 in
theorem walk_no (p : Pk) (fv dv : Value) (V : Nat → Value) (v : Value) (n : Nat) (f : Nat → Nat) (w : World) (P : Pm w p fv dv V) (A : Arg w v n f) (c0 : rt p = false) :
    Calls Try.prog 7 #[PV p fv dv, v] w fun e w' => e = .returned (.bool true) ∧ Below w.heap.size w w' := by
  have S0 := A.sb
  have hf : ∀ i, f i < 256 := by obtain ⟨_, _, _, _, _, h, _⟩ := A; exact h
  have hn : n ≤ 140737488351232 := by obtain ⟨_, _, _, h1, h2, _⟩ := A; omega
  obtain ⟨sa, sc, rfl⟩ := S0.form
  have S := Lib.hid S0
  clear A S0
  have PM := Lib.hid P
  obtain ⟨fa, fc, rfl⟩ := P.1.form
  obtain ⟨da, dc, rfl⟩ := P.2.1.form
  clear P
  have AW := fun z => Lib.hid (awake9_c z)
  have B1 := Lib.hid (balloc (brefl w) (.cells #[.int .i64 p.leap, .int .i64 p.ver, .int .i64 p.mode, .int .i64 p.strat, .int .i64 p.poll, .int .i64 p.prec, .int .u32 (p.rd : Nat), .int .u32 (p.rs : Nat), .int .u32 (p.rid : Nat), .int .u64 (p.tref : Nat), .int .u64 (p.torg : Nat), .int .u64 (p.trec : Nat), .int .u64 (p.txm : Nat), .slice fa p.fs.length fc, .int .i64 p.auth, .int .u32 (p.key : Nat), .slice da p.dig.length dc] 30))
  have NP : Hid (Blk (w.alloc (.cells #[.int .i64 p.leap, .int .i64 p.ver, .int .i64 p.mode, .int .i64 p.strat, .int .i64 p.poll, .int .i64 p.prec, .int .u32 (p.rd : Nat), .int .u32 (p.rs : Nat), .int .u32 (p.rid : Nat), .int .u64 (p.tref : Nat), .int .u64 (p.torg : Nat), .int .u64 (p.trec : Nat), .int .u64 (p.txm : Nat), .slice fa p.fs.length fc, .int .i64 p.auth, .int .u32 (p.key : Nat), .slice da p.dig.length dc] 30)) w.heap.size (pvs p (.slice fa p.fs.length fc) (.slice da p.dig.length dc))) := Lib.hid (Blk.new' w #[.int .i64 p.leap, .int .i64 p.ver, .int .i64 p.mode, .int .i64 p.strat, .int .i64 p.poll, .int .i64 p.prec, .int .u32 (p.rd : Nat), .int .u32 (p.rs : Nat), .int .u32 (p.rid : Nat), .int .u64 (p.tref : Nat), .int .u64 (p.torg : Nat), .int .u64 (p.trec : Nat), .int .u64 (p.txm : Nat), .slice fa p.fs.length fc, .int .i64 p.auth, .int .u32 (p.key : Nat), .slice da p.dig.length dc] 30)
  go_enter Try.func7, Try.ntmps7
  go_wp2_with fail
  generalize w.alloc (.cells #[.int .i64 p.leap, .int .i64 p.ver, .int .i64 p.mode, .int .i64 p.strat, .int .i64 p.poll, .int .i64 p.prec, .int .u32 (p.rd : Nat), .int .u32 (p.rs : Nat), .int .u32 (p.rid : Nat), .int .u64 (p.tref : Nat), .int .u64 (p.torg : Nat), .int .u64 (p.trec : Nat), .int .u64 (p.txm : Nat), .slice fa p.fs.length fc, .int .i64 p.auth, .int .u32 (p.key : Nat), .slice da p.dig.length dc] 30) = w1 at *
  refine (AW w1).out.mono ?_
  rintro e w2 ⟨rfl, hb⟩
  have C2 := Lib.hid hb
  clear hb AW
  have B2 := Lib.hid (bstep B1.out C2.out)
  have CW := S.out.conv B2.out
  obtain ⟨SW, hSW⟩ : ∃ s, bs8 (bl f n) = s := ⟨_, rfl⟩
  rw [hSW] at CW
  have HSW := Lib.hid hSW
  clear hSW
  go_upto_region 4 with fail
  clear CW
  have BA := Lib.hid (B2.out.trans ((balloc (brefl w2) (.cells #[] 5)).mono B2.out.size))
  obtain ⟨v2, wa, r2, o2, b2, s2, nn2⟩ := S.out.app BA.out (own0 w2 w2.heap.size (Nat.le_refl _)) (by simp) (by simp; omega) 28
  rw [List.nil_append] at o2
  obtain ⟨v3, w3, r3, o3, b3, s3⟩ := app1 o2 71 (by have := s2; simp at this; omega) (by rw [bl_len]; omega) 28
  have R2 := Lib.hid r2
  have L3 : (bl f n ++ [71]).length = n + 1 := by rw [List.length_append, bl_len]; rfl
  obtain ⟨g, cx, rfl, hg1, hbx, hc1, hc2⟩ := o3.bsC (by rw [L3]; omega) (by
    intro x hx
    simp only [bl, List.mem_append, List.mem_map, List.mem_range, List.mem_cons, List.not_mem_nil, or_false] at hx
    rcases hx with ⟨i, _, rfl⟩ | rfl
    · exact hf i
    · omega)
  have R3 := Lib.hid r3
  rw [L3] at hc1
  rw [L3] at R3
  have X3 : Hid (Bs w3 g 0 n f) := Lib.hid ⟨hbx.1, hf, fun i hi => by
    rw [hbx.2.2 i (by rw [L3]; omega)]
    show some (Value.int .u8 (((bl f n ++ [71]).getD i 0 : Nat) : Int)) = _
    rw [bl_get hi]⟩
  have Y3 : Hid (w3.cell? ⟨g, n, none⟩ = some (.int .u8 71)) := Lib.hid (by
    have y0 := hbx.2.2 n (by rw [L3]; omega)
    rw [Nat.zero_add] at y0
    rw [y0]
    show some (Value.int .u8 (((bl f n ++ [71]).getD n 0 : Nat) : Int)) = _
    have e0 := app_get f n 0 [71]
    rw [Nat.add_zero] at e0
    rw [e0]
    rfl)
  have C3 := Lib.hid (bstep C2.out (((balloc (brefl w2) (.cells #[] 5)).trans b2).trans b3))
  have hgl : g < w3.heap.size := hbx.1
  have hc1' : (n : Int) + 1 ≤ (cx : Int) := by omega
  have hc2' : (cx : Int) ≤ 9223372036854775807 := by omega
  have hc3' : (n : Int) ≤ (cx : Int) := by omega
  have n0' : (0 : Int) ≤ (n : Int) := by omega
  have hn' : (n : Int) ≤ 140737488351232 := by omega
  have SX := Lib.hid (show Sb w3 (.slice (some ⟨g, 0, none⟩) n cx) n f from ⟨_, cx, rfl, by omega, hc2, hf, fun _ => ⟨g, 0, rfl, X3.out⟩, fun e => by cases e⟩)
  clear r2 o2 b2 s2 nn2 r3 o3 b3 s3 hbx BA C2 B2
  go_upto_region 6 with (first | (at_builtin; refine wpList_append_eq rfl (.tmp 30) (.tmp 31) 28 rfl _ _ v2 wa rfl rfl R2.out ?_) | (at_builtin; refine wpList_append_eq rfl (.tmp 32) (.tmp 33) 28 rfl _ _ _ w3 rfl rfl R3.out ?_))
  clear R2 R3
  have HD := Lib.hid (Decode_any SX.out hn)
  have HS := Lib.hid (fun z (k : Below w3.heap.size w3 z) => Signed_any (SX.out.below k) hn)
  have HB : Hid (∀ x ∈ (if (dec f n).e = 0 then bl f (dec f n).a else []), x < 256) := Lib.hid (by
    split
    · exact bl_byte fun i _ => hf i
    · intro x hx; cases hx)
  unfold PSig at HS
  generalize (if (dec f n).e = 0 then bl f (dec f n).a else []) = SL at *
  generalize dec f n = D at *
  obtain ⟨er, q, ea⟩ := D
  simp only at HD HS
  go_wp2_with fail
  refine HD.out.mono ?_
  rintro e w4 ⟨⟨fv, dv, row, rfl, r1, o1⟩, hb⟩
  simp only at r1 o1
  have D4 := Lib.hid hb
  obtain ⟨fb, gc, ef, h31, h32, h33⟩ := ownF_cell r1.2.1
  obtain ⟨db, hc, ed, h41, h42, h43⟩ := own_wy o1
  have HBD : Hid (∀ j, j < row.length → ∃ a m c, (row.getD j (0, .slice none 0 0)).2 = .slice a m c ∧ m ≤ c ∧ c ≤ 9223372036854775807 ∧ m ≤ 9223372036854775807 ∧ (0 < m → ∃ g, a = some ⟨g, 0, none⟩ ∧ w3.heap.size ≤ g ∧ g < w4.heap.size ∧ fv.ownBlock ≠ some g ∧ Wy w4 g m)) := Lib.hid (fun j hj => by
    have ob := (r1.2.2 j (by rw [← r1.1]; exact hj)).2
    obtain ⟨a, c, e, l1, l2, l3⟩ := own_wy ob
    refine ⟨a, _, c, e, l1, l2, ?_, fun h => ?_⟩
    · rcases ob.2 with ⟨_, h0⟩ | ⟨_, _, _, hv, _, _, hcc, hm, _⟩
      · omega
      · unfold maxLen at hm; rw [hv] at e; cases e; omega
    · obtain ⟨g, e1, e2, e3, e4, e5⟩ := l3 h
      exact ⟨g, e1, e2, e3, fun q => rows_ne ob r1.2.1.1 types_ne g e4 q, e5⟩)
  have RW := Lib.hid r1.2.1
  have HF3 := Lib.hid h33
  have HF4 := Lib.hid h43
  generalize hm4 : q.dig.length = m4 at *
  generalize hm3 : row.length = m3 at *
  have hm4' : (m4 : Int) ≤ 9223372036854775807 := by
    rcases o1.2 with ⟨_, h0⟩ | ⟨_, _, _, hv, _, _, hcc, hm, _⟩
    · omega
    · unfold maxLen at hm; omega
  have hm3' : (m3 : Int) ≤ 9223372036854775807 := by
    rcases r1.2.1.1.2 with ⟨_, h0⟩ | ⟨_, _, _, hv, _, _, hcc, hm, _⟩
    · omega
    · unfold maxLen at hm; omega
  subst ef ed
  have h31' : (m3 : Int) ≤ (gc : Int) := by omega
  have h32' : (gc : Int) ≤ 9223372036854775807 := by omega
  have h41' : (m4 : Int) ≤ (hc : Int) := by omega
  have h42' : (hc : Int) ≤ 9223372036854775807 := by omega
  clear HD r1 o1 hb h33 h43 h31 h32 h41 h42
  go_upto_region 7 with fail
  have N5 : Hid (Blk (w4.alloc (.cells #[.int .i64 q.leap, .int .i64 q.ver, .int .i64 q.mode, .int .i64 q.strat, .int .i64 q.poll, .int .i64 q.prec, .int .u32 (q.rd : Nat), .int .u32 (q.rs : Nat), .int .u32 (q.rid : Nat), .int .u64 (q.tref : Nat), .int .u64 (q.torg : Nat), .int .u64 (q.trec : Nat), .int .u64 (q.txm : Nat), .slice fb m3 gc, .int .i64 q.auth, .int .u32 (q.key : Nat), .slice db m4 hc] 30)) w4.heap.size (pvs q (.slice fb m3 gc) (.slice db m4 hc))) := Lib.hid (Blk.new' w4 #[.int .i64 q.leap, .int .i64 q.ver, .int .i64 q.mode, .int .i64 q.strat, .int .i64 q.poll, .int .i64 q.prec, .int .u32 (q.rd : Nat), .int .u32 (q.rs : Nat), .int .u32 (q.rid : Nat), .int .u64 (q.tref : Nat), .int .u64 (q.torg : Nat), .int .u64 (q.trec : Nat), .int .u64 (q.txm : Nat), .slice fb m3 gc, .int .i64 q.auth, .int .u32 (q.key : Nat), .slice db m4 hc] 30)
  have BQ := Lib.hid (balloc (brefl w4) (.cells #[.int .i64 q.leap, .int .i64 q.ver, .int .i64 q.mode, .int .i64 q.strat, .int .i64 q.poll, .int .i64 q.prec, .int .u32 (q.rd : Nat), .int .u32 (q.rs : Nat), .int .u32 (q.rid : Nat), .int .u64 (q.tref : Nat), .int .u64 (q.torg : Nat), .int .u64 (q.trec : Nat), .int .u64 (q.txm : Nat), .slice fb m3 gc, .int .i64 q.auth, .int .u32 (q.key : Nat), .slice db m4 hc] 30))
  have D5 := Lib.hid (bstep D4.out BQ.out)
  have Q5 : Hid (QM w3 w4.heap.size (pvs q (.slice fb m3 gc) (.slice db m4 hc)) w3.heap.size (.slice fb m3 gc) row db m4 (w4.alloc (.cells #[.int .i64 q.leap, .int .i64 q.ver, .int .i64 q.mode, .int .i64 q.strat, .int .i64 q.poll, .int .i64 q.prec, .int .u32 (q.rd : Nat), .int .u32 (q.rs : Nat), .int .u32 (q.rid : Nat), .int .u64 (q.tref : Nat), .int .u64 (q.torg : Nat), .int .u64 (q.trec : Nat), .int .u64 (q.txm : Nat), .slice fb m3 gc, .int .i64 q.auth, .int .u32 (q.key : Nat), .slice db m4 hc] 30))) := Lib.hid ⟨D5.out, N5.out, ⟨row_below RW.out.1 BQ.out, RW.out.2⟩, fun j hj g' m c e hm => by
    rw [hm3] at hj
    obtain ⟨a, m', c', e', _, _, _, k⟩ := HBD.out j hj
    rw [e'] at e
    cases e
    obtain ⟨g, e1, _, _, _, k5⟩ := k hm
    cases e1
    exact k5.below BQ.out, fun g' e hm => by
      obtain ⟨g, e1, _, _, _, k5⟩ := HF4.out hm
      rw [e1] at e
      cases e
      exact k5.below BQ.out⟩
  have HF4' : Hid (0 < m4 → ∃ g, db = some ⟨g, 0, none⟩ ∧ w3.heap.size ≤ g ∧ g < w4.heap.size) := Lib.hid (fun h => by obtain ⟨g, e1, e2, e3, _⟩ := HF4.out h; exact ⟨g, e1, e2, e3⟩)
  have HBD' : Hid (∀ j, j < m3 → ∃ a m c, (row.getD j (0, .slice none 0 0)).2 = .slice a m c ∧ m ≤ c ∧ c ≤ 9223372036854775807 ∧ m ≤ 9223372036854775807 ∧ (0 < m → ∃ g, a = some ⟨g, 0, none⟩ ∧ w3.heap.size ≤ g ∧ g < w4.heap.size ∧ (Value.slice fb m3 gc).ownBlock ≠ some g)) := Lib.hid (fun j hj => by
    obtain ⟨a, m', c', e', k1, k2, k3, k⟩ := HBD.out j hj
    exact ⟨a, m', c', e', k1, k2, k3, fun h => by obtain ⟨g, e1, e2, e3, e4, _⟩ := k h; exact ⟨g, e1, e2, e3, e4⟩⟩)
  have HF3' : Hid (0 < m3 → ∃ g, fb = some ⟨g, 0, none⟩) := Lib.hid (fun h => by obtain ⟨g, e1, _⟩ := HF3.out h; exact ⟨g, e1⟩)
  clear HBD HF4 HF3 RW BQ D4 N5
  generalize w4.alloc (.cells #[.int .i64 q.leap, .int .i64 q.ver, .int .i64 q.mode, .int .i64 q.strat, .int .i64 q.poll, .int .i64 q.prec, .int .u32 (q.rd : Nat), .int .u32 (q.rs : Nat), .int .u32 (q.rid : Nat), .int .u64 (q.tref : Nat), .int .u64 (q.torg : Nat), .int .u64 (q.trec : Nat), .int .u64 (q.txm : Nat), .slice fb m3 gc, .int .i64 q.auth, .int .u32 (q.key : Nat), .slice db m4 hc] 30) = w5 at *
  have l15 : w4.heap.size < w5.heap.size := Q5.out.pk.1
  generalize w4.heap.size = b1 at *
  go_wp2_with fail
  refine (HS.out _ D5.out).mono ?_
  rintro e w6 ⟨⟨v1, rfl, o1⟩, hb⟩
  obtain ⟨a1, c1, e1, l11, l12, l13⟩ := own_wy o1
  have H1 : Hid (0 < SL.length → ∃ g, a1 = some ⟨g, 0, none⟩ ∧ w5.heap.size ≤ g ∧ Wy w6 g SL.length) := Lib.hid (fun h => by obtain ⟨g, e1, e2, _, _, e5⟩ := l13 h; exact ⟨g, e1, e2, e5⟩)
  have hm1 : (SL.length : Int) ≤ 9223372036854775807 := by
    rcases o1.2 with ⟨_, h0⟩ | ⟨_, _, _, hv, _, _, hcc, hm, _⟩
    · omega
    · unfold maxLen at hm; omega
  subst e1
  generalize SL.length = m1 at *
  have l11' : (m1 : Int) ≤ (c1 : Int) := by omega
  have l12' : (c1 : Int) ≤ 9223372036854775807 := by omega
  have B56 := Lib.hid hb
  have SX3 := Lib.hid SX.out
  clear HS o1 hb l13 HB SX l11 l12
  go_wp2_with fail
  go_loopw [12] (fun iv wr => ∃ k : Nat, k ≤ m1 ∧ iv = .int .i64 k ∧ Below w5.heap.size w5 wr ∧ ∀ g, a1 = some ⟨g, 0, none⟩ → 0 < m1 → Wy wr g m1) (fun iv _ => m1 - (intOf iv).toNat)
  case atStart => exact ⟨0, Nat.zero_le _, rfl, B56.out, fun g' e hm => by obtain ⟨g, e1, _, e5⟩ := H1.out hm; rw [e1] at e; cases e; exact e5⟩
  case round =>
    obtain ⟨k, hk, rfl, hb, hw⟩ := hrel
    rename World => w7
    have HB := Lib.hid hb
    have HW := Lib.hid hw
    clear hb hw B56
    by_cases c : k < m1
    · have e1 : decide ((k : Int) < (m1 : Int)) = true := decide_eq_true (by omega)
      have k1 : (k : Int) < (m1 : Int) := by omega
      obtain ⟨gs, rfl, hgs, _⟩ := H1.out (by omega)
      have wy := HW.out gs rfl (by omega)
      obtain ⟨⟨xx, cxx⟩, fxx⟩ := wy.2 k c
      have WN := Lib.hid (fun g' (e : some (⟨gs, 0, none⟩ : Addr) = some ⟨g', 0, none⟩) (hm : 0 < m1) => (by cases e; exact wy.set 9 ⟨xx, cxx⟩ : Wy (w7.setCell ⟨gs, k, none⟩ (.int .u8 ((9 : Nat) : Int))) g' m1))
      have BN := Lib.hid (below_set HB.out hgs k (.int .u8 9))
      clear wy
      go_wp2_with fail
      exact ⟨⟨k + 1, by omega, by go_num, BN.out, WN.out⟩, by simp [intOf]; omega⟩
    · have e1 : decide ((k : Int) < (m1 : Int)) = false := decide_eq_false (by omega)
      have Q7 := Lib.hid (Q5.out.below HB.out)
      have l17 := Nat.lt_of_lt_of_le l15 HB.out.size
      clear HB HW Q5 H1
      go_wp2_with fail
      clear e1
      go_loopw [13] (fun iv wr => ∃ k : Nat, k ≤ m3 ∧ iv = .int .i64 k ∧ QM w3 b1 (pvs q (.slice fb m3 gc) (.slice db m4 hc)) w3.heap.size (.slice fb m3 gc) row db m4 wr) (fun iv _ => m3 - (intOf iv).toNat)
      case atStart => exact ⟨0, Nat.zero_le _, rfl, Q7.out⟩
      case round =>
        obtain ⟨j, hj, rfl, hq⟩ := hrel
        rename World => w8
        have Q8 := Lib.hid hq
        clear hq Q7
        have y13 : w8.cell? ⟨b1, 13, none⟩ = some (.slice fb m3 gc) := (Q8.out.pk.2 13 _ rfl).1
        by_cases c3 : j < m3
        · have e3 : decide ((j : Int) < (m3 : Int)) = true := decide_eq_true (by omega)
          have k3 : (j : Int) < (m3 : Int) := by omega
          obtain ⟨ab, mb, cb, eb, lb1, lb2, lb3, HG⟩ := HBD'.out j c3
          have HG := Lib.hid HG
          have EB := Lib.hid eb
          have lb1' : (mb : Int) ≤ (cb : Int) := by omega
          have lb2' : (cb : Int) ≤ 9223372036854775807 := by omega
          have lb3' : (mb : Int) ≤ 9223372036854775807 := by omega
          clear eb lb1 lb2 lb3
          go_wp2_with fail
          clear y13
          go_loopw [14] (fun iv wr => ∃ k : Nat, k ≤ mb ∧ iv = .int .i64 k ∧ QM w3 b1 (pvs q (.slice fb m3 gc) (.slice db m4 hc)) w3.heap.size (.slice fb m3 gc) row db m4 wr) (fun iv _ => mb - (intOf iv).toNat)
          case atStart => exact ⟨0, Nat.zero_le _, rfl, Q8.out⟩
          case round =>
            obtain ⟨i, hi, rfl, hq⟩ := hrel
            rename World => w9
            have Q9 := Lib.hid hq
            clear hq Q8
            have y13 : w9.cell? ⟨b1, 13, none⟩ = some (.slice fb m3 gc) := (Q9.out.pk.2 13 _ rfl).1
            obtain ⟨gF, rfl⟩ := HF3'.out (by omega)
            obtain ⟨_, _, ec, _, _, hcl⟩ := ownF_cell Q9.out.rows
            cases ec
            obtain ⟨gF', eg, hgF, hcl⟩ := hcl (by rw [hm3]; omega)
            cases eg
            have z1 := (hcl j (by rw [hm3]; exact c3)).2
            rw [EB.out] at z1
            clear hcl
            by_cases c4 : i < mb
            · have e4 : decide ((i : Int) < (mb : Int)) = true := decide_eq_true (by omega)
              have k4 : (i : Int) < (mb : Int) := by omega
              obtain ⟨gb, rfl, hb1, hb2, hb3⟩ := HG.out (by omega)
              have wy := Q9.out.body j (by rw [hm3]; exact c3) gb mb cb EB.out (by omega)
              obtain ⟨⟨xx, cxx⟩, fxx⟩ := wy.2 i c4
              have QN := Lib.hid (Q9.out.set (k := i) 8 hb1 (Nat.ne_of_lt hb2) hb3 ⟨xx, cxx⟩)
              clear wy
              go_wp2_with fail
              exact ⟨⟨i + 1, by omega, by go_num, QN.out⟩, by simp [intOf]; omega⟩
            · have e4 : decide ((i : Int) < (mb : Int)) = false := decide_eq_false (by omega)
              go_wp2_with fail
              exact ⟨⟨j + 1, by omega, by go_num, Q9.out⟩, by simp [intOf]; omega⟩
        · have e3 : decide ((j : Int) < (m3 : Int)) = false := decide_eq_false (by omega)
          go_wp2_with fail
          clear y13 e3 HBD' HF3'
          go_loopw [15] (fun iv wr => ∃ k : Nat, k ≤ m4 ∧ iv = .int .i64 k ∧ Below w3.heap.size w3 wr ∧ Blk wr b1 (pvs q (.slice fb m3 gc) (.slice db m4 hc)) ∧ ∀ g, db = some ⟨g, 0, none⟩ → 0 < m4 → Wy wr g m4 ∧ ∀ i, i < k → wr.cell? ⟨g, i, none⟩ = some (.int .u8 7)) (fun iv _ => m4 - (intOf iv).toNat)
          case atStart => exact ⟨0, Nat.zero_le _, rfl, Q8.out.frame, Q8.out.pk, fun g' e hm => ⟨Q8.out.dig g' e hm, fun i hi => absurd hi (by omega)⟩⟩
          case round =>
            obtain ⟨k, hk, rfl, hb, hp, hw⟩ := hrel
            rename World => wd
            have HB := Lib.hid hb
            have HP := Lib.hid hp
            have HW := Lib.hid hw
            clear hb hp hw Q8
            have y16 : wd.cell? ⟨b1, 16, none⟩ = some (.slice db m4 hc) := (HP.out.2 16 _ rfl).1
            by_cases c4 : k < m4
            · have e4 : decide ((k : Int) < (m4 : Int)) = true := decide_eq_true (by omega)
              have k4 : (k : Int) < (m4 : Int) := by omega
              obtain ⟨gd, rfl, hd1, hd2⟩ := HF4'.out (by omega)
              obtain ⟨wy, w7⟩ := HW.out gd rfl (by omega)
              obtain ⟨⟨xx, cxx⟩, fxx⟩ := wy.2 k c4
              have WN := Lib.hid (fun g' (e : some (⟨gd, 0, none⟩ : Addr) = some ⟨g', 0, none⟩) (hm : 0 < m4) => (by
                cases e
                refine ⟨wy.set 7 ⟨xx, cxx⟩, fun i hi => ?_⟩
                by_cases q : i = k
                · subst q
                  exact World.cell?_setCell_same _ _ _ cxx
                · rw [World.cell?_setCell_other _ _ _ _ (fun e => q (by simpa using (congrArg Addr.off e).symm))]
                  exact w7 i (by omega) : Wy (wd.setCell ⟨gd, k, none⟩ (.int .u8 ((7 : Nat) : Int))) g' m4 ∧ ∀ i, i < k + 1 → (wd.setCell ⟨gd, k, none⟩ (.int .u8 ((7 : Nat) : Int))).cell? ⟨g', i, none⟩ = some (.int .u8 7)))
              have BN := Lib.hid (below_set HB.out hd1 k (.int .u8 7))
              have PN := Lib.hid (blk_other HP.out (Nat.ne_of_gt hd2) k (.int .u8 7))
              clear wy w7
              go_wp2_with fail
              exact ⟨⟨k + 1, by omega, by go_num, BN.out, PN.out, WN.out⟩, by simp [intOf]; omega⟩
            · have e4 : decide ((k : Int) < (m4 : Int)) = false := decide_eq_false (by omega)
              obtain rfl : k = m4 := by omega
              have CX := SX3.out.conv HB.out
              rw [HSW.out] at CX
              have CY : wd.cell? ⟨g, n, none⟩ = some (.int .u8 71) := (HB.out.cell (p := ⟨g, n, none⟩) hgl).trans Y3.out
              have n1' : (n : Int) < (n : Int) + 1 := by omega
              have E3 := Lib.hid (bstep C3.out HB.out)
              have E3s := Lib.hid (bstep C3.out HB.out)
              have NPl := Lib.hid NP.out.1
              by_cases ce : er = 0
              · have ee : (er == 0) = true := by simpa using ce
                go_wp2_with fail
                clear y16 e4 CX CY
                go_loopw [16] (fun iv wr => ∃ i : Nat, i ≤ k ∧ iv = .int .i64 i ∧ wr = wd) (fun iv _ => k - (intOf iv).toNat)
                case atStart => exact ⟨0, Nat.zero_le _, rfl, rfl⟩
                case round =>
                  obtain ⟨i, hi, rfl, rfl⟩ := hrel
                  have y16 : wr.cell? ⟨b1, 16, none⟩ = some (.slice db k hc) := (HP.out.2 16 _ rfl).1
                  by_cases c5 : i < k
                  · have e5 : decide ((i : Int) < (k : Int)) = true := decide_eq_true (by omega)
                    have k5 : (i : Int) < (k : Int) := by omega
                    obtain ⟨gd, rfl, hd1, hd2⟩ := HF4'.out (by omega)
                    have w7 := (HW.out gd rfl (by omega)).2 i c5
                    go_wp2_with fail
                    exact ⟨⟨i + 1, by omega, by go_num, by first | rfl | trivial⟩, by simp [intOf]; omega⟩
                  · have e5 : decide ((i : Int) < (k : Int)) = false := decide_eq_false (by omega)
                    clear HW HP
                    go_upto_region 31 with fail
                    clear HSW Y3 SX3 X3 S HF4'
                    have HE : Hid (∀ z, Below w.heap.size w z → Calls Try.prog 9 #[.agg (pvs p (.slice fa p.fs.length fc) (.slice da p.dig.length dc)).toArray] z fun e w' => e = .returned (.tuple #[.slice none 0 0, .int .i64 3]) ∧ Below z.heap.size z w') := Lib.hid (fun z (k : Below w.heap.size w z) => Encode_no (PM.out.below k) c0)
                    have HR : Hid (∀ z, Below w.heap.size w z → Calls Try.prog 10 #[.agg (pvs p (.slice fa p.fs.length fc) (.slice da p.dig.length dc)).toArray] z fun e w' => e = .returned (.tuple #[.slice none 0 0, .int .i64 3]) ∧ Below z.heap.size z w') := Lib.hid (fun z (k : Below w.heap.size w z) => rEncode_no (PM.out.below k) c0)
                    have BD := Lib.hid (bstep B1.out E3.out)
                    have NPd := Lib.hid (NP.out.below E3.out)
                    have hl : (pvs p (.slice fa p.fs.length fc) (.slice da p.dig.length dc)).length = 17 := rfl
                    clear c0 NP E3 B1 PM
                    go_wp2_with (refine wpList_load_mid rfl 30 _ rfl _ 0 rfl (pvs p (.slice fa p.fs.length fc) (.slice da p.dig.length dc)) _ NPd.out.range Try.underlying30 rfl (by first | exact info_pk | (rw [hl]; exact info_pk) | (rw [hl1]; exact info_pk)) ?_)
                    refine (HE.out _ BD.out).mono ?_
                    rintro e x1 ⟨rfl, hb⟩
                    have BD1 := Lib.hid (bstep BD.out hb)
                    have NP1 := Lib.hid (NPd.out.below hb)
                    clear hb NPd BD
                    go_upto_region 32 with fail
                    go_wp2_with (refine wpList_load_mid rfl 30 _ rfl _ 0 rfl (pvs p (.slice fa p.fs.length fc) (.slice da p.dig.length dc)) _ NP1.out.range Try.underlying30 rfl (by first | exact info_pk | (rw [hl]; exact info_pk) | (rw [hl1]; exact info_pk)) ?_)
                    refine (HE.out _ BD1.out).mono ?_
                    rintro e x2 ⟨rfl, hb⟩
                    have BD2 := Lib.hid (bstep BD1.out hb)
                    have NP2 := Lib.hid (NP1.out.below hb)
                    clear hb NP1 HE BD1
                    go_upto_region 33 with fail
                    go_wp2_with (refine wpList_load_mid rfl 30 _ rfl _ 0 rfl (pvs p (.slice fa p.fs.length fc) (.slice da p.dig.length dc)) _ NP2.out.range Try.underlying30 rfl (by first | exact info_pk | (rw [hl]; exact info_pk) | (rw [hl1]; exact info_pk)) ?_)
                    refine (HR.out _ BD2.out).mono ?_
                    rintro e x3 ⟨rfl, hb⟩
                    have BD3 := Lib.hid (bstep BD2.out hb)
                    have NP3 := Lib.hid (NP2.out.below hb)
                    clear hb NP2 BD2
                    go_upto_region 34 with fail
                    go_wp2_with fail
                    go_loopw [23] (fun iv wr => iv = .int .i64 0 ∧ wr = x3) (fun iv _ => 0)
                    case atStart => exact ⟨rfl, rfl⟩
                    case round =>
                      obtain ⟨rfl, rfl⟩ := hrel
                      go_upto_region 38 with fail
                      go_wp2_with (refine wpList_load_mid rfl 30 _ rfl _ 0 rfl (pvs p (.slice fa p.fs.length fc) (.slice da p.dig.length dc)) _ NP3.out.range Try.underlying30 rfl (by first | exact info_pk | (rw [hl]; exact info_pk) | (rw [hl1]; exact info_pk)) ?_)
                      refine (HR.out _ BD3.out).mono ?_
                      rintro e x5 ⟨rfl, hb⟩
                      have C1 := conv_zero x5 none 0
                      have BX := Lib.hid (bstep BD3.out hb)
                      clear hb
                      go_wp2_with fail
                      go_ret
                      exact ⟨rfl, BX.out⟩
              · have ee : (er == 0) = false := by simpa using ce
                clear HW HP
                have ce := Lib.hid ce
                go_upto_region 31 with fail
                clear HSW Y3 SX3 X3 S HF4'
                have HE : Hid (∀ z, Below w.heap.size w z → Calls Try.prog 9 #[.agg (pvs p (.slice fa p.fs.length fc) (.slice da p.dig.length dc)).toArray] z fun e w' => e = .returned (.tuple #[.slice none 0 0, .int .i64 3]) ∧ Below z.heap.size z w') := Lib.hid (fun z (k : Below w.heap.size w z) => Encode_no (PM.out.below k) c0)
                have HR : Hid (∀ z, Below w.heap.size w z → Calls Try.prog 10 #[.agg (pvs p (.slice fa p.fs.length fc) (.slice da p.dig.length dc)).toArray] z fun e w' => e = .returned (.tuple #[.slice none 0 0, .int .i64 3]) ∧ Below z.heap.size z w') := Lib.hid (fun z (k : Below w.heap.size w z) => rEncode_no (PM.out.below k) c0)
                have BD := Lib.hid (bstep B1.out E3.out)
                have NPd := Lib.hid (NP.out.below E3.out)
                have hl : (pvs p (.slice fa p.fs.length fc) (.slice da p.dig.length dc)).length = 17 := rfl
                clear c0 NP E3 B1 PM
                go_wp2_with (refine wpList_load_mid rfl 30 _ rfl _ 0 rfl (pvs p (.slice fa p.fs.length fc) (.slice da p.dig.length dc)) _ NPd.out.range Try.underlying30 rfl (by first | exact info_pk | (rw [hl]; exact info_pk) | (rw [hl1]; exact info_pk)) ?_)
                refine (HE.out _ BD.out).mono ?_
                rintro e x1 ⟨rfl, hb⟩
                have BD1 := Lib.hid (bstep BD.out hb)
                have NP1 := Lib.hid (NPd.out.below hb)
                clear hb NPd BD
                go_upto_region 32 with fail
                go_wp2_with (refine wpList_load_mid rfl 30 _ rfl _ 0 rfl (pvs p (.slice fa p.fs.length fc) (.slice da p.dig.length dc)) _ NP1.out.range Try.underlying30 rfl (by first | exact info_pk | (rw [hl]; exact info_pk) | (rw [hl1]; exact info_pk)) ?_)
                refine (HE.out _ BD1.out).mono ?_
                rintro e x2 ⟨rfl, hb⟩
                have BD2 := Lib.hid (bstep BD1.out hb)
                have NP2 := Lib.hid (NP1.out.below hb)
                clear hb NP1 HE BD1
                go_upto_region 33 with fail
                go_wp2_with (refine wpList_load_mid rfl 30 _ rfl _ 0 rfl (pvs p (.slice fa p.fs.length fc) (.slice da p.dig.length dc)) _ NP2.out.range Try.underlying30 rfl (by first | exact info_pk | (rw [hl]; exact info_pk) | (rw [hl1]; exact info_pk)) ?_)
                refine (HR.out _ BD2.out).mono ?_
                rintro e x3 ⟨rfl, hb⟩
                have BD3 := Lib.hid (bstep BD2.out hb)
                have NP3 := Lib.hid (NP2.out.below hb)
                clear hb NP2 BD2
                go_upto_region 34 with fail
                go_wp2_with fail
                go_loopw [23] (fun iv wr => iv = .int .i64 0 ∧ wr = x3) (fun iv _ => 0)
                case atStart => exact ⟨rfl, rfl⟩
                case round =>
                  obtain ⟨rfl, rfl⟩ := hrel
                  go_upto_region 38 with fail
                  go_wp2_with (refine wpList_load_mid rfl 30 _ rfl _ 0 rfl (pvs p (.slice fa p.fs.length fc) (.slice da p.dig.length dc)) _ NP3.out.range Try.underlying30 rfl (by first | exact info_pk | (rw [hl]; exact info_pk) | (rw [hl1]; exact info_pk)) ?_)
                  refine (HR.out _ BD3.out).mono ?_
                  rintro e x5 ⟨rfl, hb⟩
                  have C1 := conv_zero x5 none 0
                  have BX := Lib.hid (bstep BD3.out hb)
                  clear hb
                  go_wp2_with fail
                  go_ret
                  exact ⟨rfl, BX.out⟩
theorem walk (p : Pk) (fv dv : Value) (V : Nat → Value) (v : Value) (n : Nat) (f : Nat → Nat) (w : World) (P : Pm w p fv dv V) (A : Arg w v n f) :
    Calls Try.prog 7 #[PV p fv dv, v] w fun e w' => e = .returned (.bool true) ∧ Below w.heap.size w w' := by
  cases c : rt p with
  | true => exact walk_yes p fv dv V v n f w P A c
  | false => exact walk_no p fv dv V v n f w P A c
set_option maxRecDepth 100000 in
theorem lifted (os : Os) (started : os.Started) (H : Type) (enc : TypeId × Value → H) :
    ReturnsInHanded {} Try.checked os 7 .any (Rows.wireKeepSpec.pre6 enc Try.prog Try.f7 Rows.wireKeepRow.domain false) (Rows.wireKeepSpec.post enc Try.prog Try.f7 false true false false) := by
  refine returnsInHanded_of_change_sized (C := Try.checked) own started (by kernel_rfl) Try.func7
    (ChangeSpec.witness6 (enc := enc) (C := Try.checked) false ⟨#[], #[.agg #[.int .i64 0, .int .i64 0, .int .i64 0, .int .i64 0, .int .i64 0, .int .i64 0, .int .u32 0, .int .u32 0, .int .u32 0, .int .u64 0, .int .u64 0, .int .u64 0, .int .u64 0, .slice none 0 0, .int .i64 0, .int .u32 0, .slice none 0 0], .slice none 0 0], []⟩ 8 (by kernel_rfl) (by kernel_rfl) (by kernel_rfl) (by kernel_rfl)) ?_
  intro W base args ds gs before hval0 hW hcnd hsz0 _
  have hsz : (DataW.weightsEach Try.prog (Try.f7.params.toList ++ Rows.wireKeepSpec.plain.varTypes Try.prog) (ds ++ gs)).all (· ≤ reachBytes) = true := hsz0
  have hval : ∀ (j : Nat) t v, Try.f7.params[j]? = some t → args[j]? = some v → Value.okWide Try.prog W .any base t v := hval0
  have hW' := hW
  obtain ⟨p, q, hA0, hV, rfl, hfz, hnd⟩ := hW
  have hA : DataW.TrodAll enc Try.prog W 0 (fun _ => true) true Try.f7.params.toList args.toList ds p := hA0
  rw [Try.params7] at hA hval hsz
  obtain ⟨v0, vs0, d0, ds0, p0, q0, hargs, rfl, rfl, h0, r0⟩ := trodAll_cons hA
  obtain ⟨v1, vs1, d1, ds1, p1, q1, rfl, rfl, rfl, h1, r1⟩ := trodAll_cons r0
  obtain ⟨rfl, rfl, rfl⟩ := trodAll_nil r1
  obtain rfl : args = #[v0, v1] := by cases args; simp_all
  obtain ⟨rfl, rfl⟩ := trodVars_none hV
  have h0k := h0
  have hlt0 : ∀ x ∈ p0, x.block < W.heap.size := fun x hx => by have := hW'.lt x (by simp [hx]); simpa using this
  have hb0 : ∀ y ∈ DataW.weights Try.prog 30 d0, y ≤ reachBytes := fun y hy => by
    have := List.all_eq_true.1 hsz y (DataW.weights_mem_each (j := 0) rfl rfl y hy)
    simpa using this
  have h1k := h1
  have hlt1 : ∀ x ∈ p1, x.block < W.heap.size := fun x hx => by have := hW'.lt x (by simp [hx]); simpa using this
  have hb1 : ∀ es sp, d1 = .slice es sp → (es.length + sp.length) * Try.prog.bytesOf 5 ≤ reachBytes := by
    intro es sp he
    exact sized_slice hsz (j := 1) (t := 28) (e := 5) rfl (by rw [he]; rfl) Try.underlying28
  obtain ⟨pk0, fv0, dv0, V0, rfl, g0⟩ := open_pk (hval 0 30 v0 rfl rfl) h0 hb0
  obtain ⟨n1, f1, g1⟩ := open_bytes (hval 1 28 v1 rfl rfl) h1 hb1
  clear hA0 hval0
  simp only [List.append_nil] at hW'
  refine (walk pk0 fv0 dv0 V0 v1 n1 f1 W g0 g1).mono fun e W' ⟨he, hg⟩ => ?_
  subst he
  exact ⟨_, rfl, _, _, _, [], _, [], hW', trodAll_cons_mk (shut_bool Try.underlying4 _) trodAll_mk0,
    (trodAll_cons_mk (Below.trod laidOut (by kernel_rfl) (of_decide_eq_true (by kernel_rfl)) h0k hg hlt0) (trodAll_cons_mk (Below.trod laidOut (by kernel_rfl) (of_decide_eq_true (by kernel_rfl)) h1k hg hlt1) trodAll_mk0)), rfl, hg.frame _, fun h => nomatch h⟩

theorem over : Rows.wireKeepRow.holds Try.pinned (OpenSpec.ofChange Rows.wireKeepSpec) :=
  OpenClaim.holds_of_wide 7 Try.f7 rfl rfl rfl rfl rfl rfl rfl ⟨rfl, rfl, rfl, rfl, rfl⟩ rfl rfl rfl rfl rfl (by kernel_rfl) Try.func7 (by kernel_rfl)
    (of_decide_eq_true (by kernel_rfl)) (by unfold Func.isWrapper; first | (rw [if_pos (by decide +kernel)]; kernel_rfl) | (rw [if_neg (by decide +kernel)]; exact ⟨rfl, rfl⟩))
    (fun os started H enc _ => lifted os started H enc)

theorem proved : Rows.WireKeepSaid :=
  over
end Go.Proofs.Ytmjbnbjkpimjmaa.wireKeep
